/- Function filled of package batch: the lots of one side's fills. -/
import Derived.Test.YtjolccidheflpaaGreatDoorV25
import Derived.Test.YtjolccidheflpaaGreatDoorV29
import Derived.Test.YtjolccidheflpaaGreatDoorV11
import Derived.Test.YtjolccidheflpaaGreatDoorV08
import Derived.Test.YtjolccidheflpaaGreatDoorV24
namespace Go.Proofs.YtjolccidheflpaaGreatDoor
set_option maxHeartbeats 8000000
open Go.RowKit
set_option maxRecDepth 100000
theorem ad2 (l:List Cv.ag) (sd:Int) (f:Int×Int):(Fs.nJ l sd f).length<=1:=by
 unfold Fs.nJ;split <;> simp
theorem Ky (l:List Cv.ag) (sd:Int):∀ F,(Fs.filled l sd F).length<=F.length
 | []=>lRq _
 | f::F=>by
  have:=Ky l sd F
  have:=ad2 l sd f
  rw[Fs.filled,lAq,lCq];omega
theorem ad3 (l:List Cv.ag) (sd:Int) (F:List (Int×Int)) (f:Int×Int):Fs.filled l sd (F++[f])=Fs.filled l sd F++Fs.nJ l sd f:=by
 rw[Fs.SF,Fs.filled,Fs.filled,aNq]
theorem ad4 (b base A1 cap n:Nat) (v:Value) (sd:Int) (l:List Cv.ag) (F:List (Int×Int)) (w:World) (hb:Hid (cA w base b v l)) (hl:Hid (l.length<=60)) (hn:Hid (F.length=n)) (hn':n<=400)
  (hF:Hid (∀ i,i<n->w.cell? ⟨A1,i*2,none⟩=some (.int .i64 (ei F i).1)∧w.cell? ⟨A1,i*2+1,none⟩=some (.int .i64 (ei F i).2))) :
  Calls Tryz.prog 263 #[.pointer (some ⟨b,0,none⟩),.int .i64 sd,.slice (some ⟨A1,0,none⟩) n cap] w fun e w'=>∃ v',e=.returned v'∧w'.ownsRow w.heap.size 197 5 v' (Fs.filled l sd F).length (flat (Fs.filled l sd F))∧Below w.heap.size w w':=by
 obtain⟨i0,z0,hi,hz0,hz1,hz2,hz3⟩:=DT;have Hi:=hDq hi;have eK:=hDq hz0;have eL:=hDq hz1;have eM:=hDq hz2;have nB:=hDq hz3;clear hi hz0 hz1 hz2 hz3;go_enter Tryz.func263,Tryz.ntmps263;go_wp2
 go_loopw [7,14] (fun u i wr=>∃ (k:Nat) (zs:List Cv.ag),k<=n∧i=.int .i64 k∧zs=Fs.filled l sd (F.take k)∧zs.length<=k∧wr.ownsRow w.heap.size 197 5 u zs.length (flat zs)∧Below w.heap.size w wr) (fun _ i _=>n-(intOf i).toNat)
 case atStart=>exact⟨0,[],Nat.zero_le _,rfl,rfl,lRq _,⟨rfl,.inl ⟨rfl,rfl⟩⟩,bRq _ _⟩
 case round =>
  obtain⟨k,zs,hk,rfl,hzs,hzl,hrow,hbl⟩:=hrel;have SG:=hDq hzs;have h9:=hDq hrow;have gh:=hDq hbl;clear hzs hrow hbl;by_cases hlt:k<n
  ·have aK:(k:Int)<n:=by omega
   obtain⟨c0,c1⟩:=hF.out k hlt;have c0:=cell_later gh.out c0;have c1:=cell_later gh.out c1;have kG:Hid (Fs.filled l sd (F.take (k+1))=zs++Fs.nJ l sd (ei F k)):=by
    show _=_;rw[ad5 (by rw[hn.out];exact hlt),ad3,<- SG.out]
   obtain⟨⟨id,q⟩,s7⟩:∃ f,ei F k=f:=⟨_,rfl⟩;rw[s7]at c0 c1 kG;clear s7;simp only[]at c0 c1;have hb1:Below wr.heap.size wr (wr.alloc (.cells #[.int .i64 id,.int .i64 q] 300)):=(bRq _ _).alloc (lRq _) _;have je:=hDq (DU b base v id l (wr.alloc (.cells #[.int .i64 id,.int .i64 q] 300)) ((hb.out.later (gh.out)).later hb1) hl.out);have hd:(wr.alloc (.cells #[.int .i64 id,.int .i64 q] 300)).heap[wr.heap.size]?=some (.cells #[.int .i64 id,.int .i64 q] 300 (0,0)):=hNq _ _;have HD:=hDq hd;have HB1:=hDq (gh.out.trans (hb1.mono gh.out.size));have HR1:=hDq (h9.out.alloc (.cells #[.int .i64 id,.int .i64 q] 300));clear hd hb1;obtain⟨D,SH⟩:∃ D,wr.heap.size=D:=⟨_,rfl⟩;have El:=hDq SH;clear SH;cases hh:Cv.has l id with
   | false =>
    have vA:Hid (Fs.nJ l sd (id,q)=[]):=by show _=_;unfold Fs.nJ;rw[if_neg (by simp[hh])]
    rw[hh,show Bk.jv l id=Cv.z by unfold Bk.jv;rw[hh];rfl]at je;unfold bJ Cv.z at je
    go_wp2_with fail
    refine je.out.mono ?_;rintro e w2 ⟨rfl,hb2⟩;have HB2:=hDq (HB1.out.trans (hb2.mono HB1.out.size));have aT:=hDq (bR HR1.out hb2);clear hb2 je HR1 HB1 HD;simp only[];have au:=hDq (HB2.out.alloc HB2.out.size (.cells #[.int .i64 0,.int .i64 0,.int .i64 0,.int .i64 0,.int .i64 0] 197));have HR3:=hDq (aT.out.alloc (.cells #[.int .i64 0,.int .i64 0,.int .i64 0,.int .i64 0,.int .i64 0] 197));go_wp2;refine⟨⟨k+1,zs,by omega,by go_num,by rw[kG.out,vA.out,aNq],by omega,HR3.out,au.out⟩,by simp[intOf];omega⟩
   | true =>
    rw[hh,show Bk.jv l id=Cv.nth l (Bk.pos l id) by unfold Bk.jv;rw[if_pos hh]]at je;have vA:Hid (Fs.nJ l sd (id,q)=if (Cv.nth l (Bk.pos l id)).sd=sd then [Pu.only (Cv.nth l (Bk.pos l id)) q] else []):=by
     show _=_;unfold Fs.nJ;by_cases hs:(Cv.nth l (Bk.pos l id)).sd=sd
     ·rw[if_pos ⟨hh,hs⟩,if_pos hs]
     ·rw[if_neg (fun h=>hs h.2),if_neg hs]
    generalize Cv.nth l (Bk.pos l id)=X at *;obtain⟨x0,x1,x2,x3,x4⟩:=X;unfold bJ at je;simp only[Pu.only]at vA je;by_cases hs:x2=sd
    ·subst hs
     rw[if_pos rfl]at vA
     go_wp2_with fail
     refine je.out.mono ?_;rintro e w2 ⟨rfl,hb2⟩;have HB2:=hDq (HB1.out.trans (hb2.mono HB1.out.size));have aT:=hDq (bR HR1.out hb2);have qU:w2.heap[D]?=some (.cells #[.int .i64 id,.int .i64 q] 300 (0,0)):=by rw[<- El.out,hb2.block _ (lBq HD.out)];exact HD.out
     rw[El.out];have d1:w2.cell? ⟨D,1,none⟩=some (.int .i64 q):=by rw[cR w2 D 1 _ _ _ qU];rfl
     have hDl:=lBq qU;clear hb2 je HR1 HB1 HD qU;have au:=hDq (HB2.out.alloc HB2.out.size (.cells #[.int .i64 x0,.int .i64 x1,.int .i64 x2,.int .i64 x3,.int .i64 q] 197));have HR3:=hDq (aT.out.alloc (.cells #[.int .i64 x0,.int .i64 x1,.int .i64 x2,.int .i64 x3,.int .i64 q] 197));simp only[]
     go_wp2_with (at_builtin;refine wpList_append_own_at _ rfl _ _ 195 rfl w.heap.size 197 i0 z0 5 40 Tryz.underlying195 Hi.out eK.out eL.out eM.out nB.out (by decide) _ _ _ rfl (HR3.out.alloc _) ⟨w2.heap.size+1,0,none⟩ 1 1 (dK ⟨x0,x1,x2,x3,q⟩) rfl rfl ?c1 ?c2 ?c3 ?c4 ?c5 ?_)
     case c1=>exact fun j u hj=>xD _ ⟨x0,x1,x2,x3,q⟩ 197 _ (by simp) j u hj
     case c2 => exact fun u hu => by
                     simp only[dK,List.mem_cons,List.not_mem_nil,or_false]at hu;rcases hu with rfl | rfl | rfl | rfl | rfl <;> rfl
     case c3=>unfold maxLen;omega
     case c4=>omega
     case c5=>have:=au.out.size;simp at this ⊢;omega
     intro ve we hown' hgrow _ hloc;have iK:Hid (we.ownsRow w.heap.size 197 5 ve (zs++[Cv.ag.mk x0 x1 x2 x3 q]).length (flat (zs++[Cv.ag.mk x0 x1 x2 x3 q]))):=by
      show World.ownsRow _ _ _ _ _ _ _;rw[show flat (zs++[Cv.ag.mk x0 x1 x2 x3 q])=flat zs++dK ⟨x0,x1,x2,x3,q⟩ by simp[flat],lAq];exact hown'
     have Kw:=(HR3.out.alloc (.cells #[.int .i64 x0,.int .i64 x1,.int .i64 x2,.int .i64 x3,.int .i64 q] 197)).lt;have kV:Hid (Below w.heap.size w we):=(au.out.alloc au.out.size _).grown hgrow (by have:=au.out.size;simp at this ⊢;omega) (fun j hj=>(Kw j hj).1);clear hown' hgrow hloc Kw HR3 au aT HB2 d1;go_wp2;refine⟨⟨k+1,zs++[Cv.ag.mk x0 x1 x2 x3 q],by omega,by go_num,by rw[kG.out,vA.out],by simp;omega,iK.out,kV.out⟩,by simp[intOf];omega⟩
    ·have hs':(x2==sd)=false:=by simpa using hs
     rw[if_neg hs]at vA
     go_wp2_with fail
     refine je.out.mono ?_;rintro e w2 ⟨rfl,hb2⟩;have HB2:=hDq (HB1.out.trans (hb2.mono HB1.out.size));have aT:=hDq (bR HR1.out hb2);clear hb2 je HR1 HB1 HD;have au:=hDq (HB2.out.alloc HB2.out.size (.cells #[.int .i64 x0,.int .i64 x1,.int .i64 x2,.int .i64 x3,.int .i64 x4] 197));have HR3:=hDq (aT.out.alloc (.cells #[.int .i64 x0,.int .i64 x1,.int .i64 x2,.int .i64 x3,.int .i64 x4] 197));simp only[];go_wp2;refine⟨⟨k+1,zs,by omega,by go_num,by rw[kG.out,vA.out,aNq],by omega,HR3.out,au.out⟩,by simp[intOf];omega⟩
  ·have aK:¬ (k:Int)<n:=by omega
   have hzz:zs=Fs.filled l sd F:=by rw[SG.out,List.take_of_length_le (by rw[hn.out];omega)]
   subst hzz;go_wp2;go_ret;exact⟨_,rfl,h9.out,gh.out⟩
theorem SI (b base:Nat) (v h_:Value) (sd:Int) (l:List Cv.ag) (F:List (Int×Int)) (w:World) (hb:Hid (cA w base b v l)) (hl:Hid (l.length<=60)) (hn:F.length<=400) (hF:Hid (Kz w h_ F)) :
  Calls Tryz.prog 263 #[.pointer (some ⟨b,0,none⟩),.int .i64 sd,h_] w fun e w'=>∃ v',e=.returned v'∧w'.ownsRow w.heap.size 197 5 v' (Fs.filled l sd F).length (flat (Fs.filled l sd F))∧Below w.heap.size w w':=by
 rcases hF.out with ⟨rfl,a,cap,rfl⟩ | ⟨A1,cap,rfl,hc⟩
 ·go_enter Tryz.func263,Tryz.ntmps263
  go_wp2;refine wp_loop_rounds 1 ?_;rw[rounds_succ];go_wp2;go_ret;exact⟨_,rfl,⟨rfl,.inl ⟨rfl,rfl⟩⟩,bRq _ _⟩
 ·exact ad4 b base A1 cap F.length v sd l F w hb hl rfl hn hc
def eZ (w:World) (v:Value) (F:List (Int×Int)):Prop :=
 (F=[]∧∃ a cap,v=.slice a 0 cap)∨∃ g cap cur,v=.slice (some ⟨g,0,none⟩) F.length cap∧(∀ i,i<F.length->w.cell? ⟨g,i*2,none⟩=some (.int .i64 (ei F i).1)∧w.cell? ⟨g,i*2+1,none⟩=some (.int .i64 (ei F i).2))∧w.heap[g]?=some (.cells cur 300 (0,0))
section
variable {w w':World} {v:Value} {F:List (Int×Int)}
theorem eZ.TJ (h:eZ w v F):Kz w v F:=by
 rcases h with h | ⟨g,cap,cur,h1,h2,_⟩
 ·exact .inl h
 ·exact .inr ⟨g,cap,h1,h2⟩
theorem eZ.keep (h:eZ w v F) (hk:∀ (g:Nat) (cur:Array Value),w.heap[g]?=some (Obj.cells cur 300 (0,0))->w'.heap[g]?=w.heap[g]?):eZ w' v F:=by
 rcases h with h | ⟨g,cap,cur,h1,h2,h3⟩
 ·exact .inl h
 ·refine .inr ⟨g,cap,cur,h1,fun i hi=>?_,by rw[hk g cur h3];exact h3⟩
  rw[World.cell?_of_block (a:=⟨g,i*2,none⟩) (hk g cur h3),World.cell?_of_block (a:=⟨g,i*2+1,none⟩) (hk g cur h3)];exact h2 i hi
theorem eZ.later (h:eZ w v F) (hb:Below w.heap.size w w'):eZ w' v F:=h.keep fun g _ hg=>hb.block g (lBq hg)
theorem eZ.save {q:Nat} (h:eZ w v F) (hs:aH w w' q) {a:Array Value} {T:TypeId} (hq:w.heap[q]?=some (.cells a T (0,0))) (hT:T≠300):eZ w' v F :=
 h.keep fun g _ hg=>hs.block g (lBq hg) (Ne.symm (aA hq hg hT))
theorem eZ.book {base p:Nat} {u u':Value} {l:List Cv.ag} (h:eZ w v F) (hb:cA w base p u l) (hs:Step w w' p u u'):eZ w' v F :=
 h.keep fun g _ hg=>hs.only.block g (lBq hg) (fun e=>by
  have:g=p:=by simpa using e
  exact aA hg hb.cell (by decide) this) (fun e=>iM hb.row hg (by decide) e.symm)
theorem eZ.Bh {base:Nat} (h:w.ownsRow base 300 2 v F.length (d7 F)):eZ w v F:=by
 rcases aeD h with h1 | ⟨g,cap,h1,h2⟩
 ·exact .inl h1
 ·rcases h.2 with ⟨e,_⟩ | ⟨g',cap',cur,e,hg,dF,_⟩
  ·rw[e]at h1;cases h1
  ·rw[e]at h1
   simp only[Value.slice.injEq,Option.some.injEq,Addr.mk.injEq]at h1;obtain⟨⟨rfl,_,_⟩,_,rfl⟩:=h1;exact .inr ⟨g',cap',cur,e,h2,dF⟩
theorem eZ.val (h:eZ w v F):∃ a cap,v=.slice a F.length cap:=by
 rcases h with ⟨rfl,a,cap,rfl⟩ | ⟨g,cap,cur,rfl,_⟩
 ·exact⟨a,cap,rfl⟩
 ·exact⟨_,_,rfl⟩
end
theorem dV.nil {w:World} {g g':Nat} {v:Value} (h:dV w g v []):dV w g' v []:=by
 rcases h with h | ⟨o,cap,cur,h1,h2,h3,h4⟩
 ·exact .inl h
 ·exact .inl ⟨rfl,_,_,h1⟩
theorem aeE {w1 w2:World} {B TK TL:Nat} {v1 v2:Value} {l1 l2:List Cv.ag} (h1:w1.ownsRow TK 197 5 v1 l1.length (flat l1)) (h12:Below w1.heap.size w1 w2) (h2:w2.ownsRow TL 197 5 v2 l2.length (flat l2)) (hb1:B<=TK) (hb2:w1.heap.size<=TL) (hB:B<=w1.heap.size) :
  ∃ g1 g2,dV w2 g1 v1 l1∧dV w2 g2 v2 l2∧g1≠g2∧B<=g1∧B<=g2:=by
 obtain⟨g1,a1,c1⟩:=dV.Bh (bR h1 h12);obtain⟨g2,a2,c2⟩:=dV.Bh h2;have FX:=h1.lt;rcases c1 with rfl | ⟨c1,e1⟩
 ·rcases c2 with rfl | ⟨c2,e2⟩
  ·exact⟨B,B+1,a1.nil,a2.nil,by omega,by omega,by omega⟩
  ·exact⟨g2+1,g2,a1.nil,a2,by omega,by omega,by omega⟩
 ·have:=FX g1 e1
  rcases c2 with rfl | ⟨c2,e2⟩
  ·exact⟨g1,g1+1,a1,a2.nil,by omega,by omega,by omega⟩
  ·exact⟨g1,g2,a1,a2,by omega,by omega,by omega⟩
theorem aeM {l:List Cv.ag} {price:Int} {aP:List (Int×Int)} (hok:Bk.Good l) (hF:Fs.vt l price aP) {k:Nat} (hk:k<aP.length) :
  Bk.lK (Fs.gQ (aP.take k) l) (ei aP k).1 (ei aP k).2=0∧Bk.mr (Fs.gQ (aP.take k) l) (ei aP k).1 (ei aP k).2=Fs.gQ (aP.take (k+1)) l∧Bk.Good (Fs.gQ (aP.take k) l):=by
 have he:ei aP k=aP[k]:=by unfold ei;rw[gE,List.getElem?_eq_getElem hk];rfl
 have hpos:∀ f∈aP,1<=f.2:=fun f hf=>(hF.pos f hf).1;obtain⟨hq,x,hx,hid⟩:=hF.pos _ (List.getElem_mem hk);have h1:=congrFun (Fs.LY aP hk) (aP[k]).1;simp only[Fu.more,if_true]at h1;have h2:=Fs.TR (aP[k]).1 aP hpos (k+1);have h3:=(hF.le x hx).2;rw[hid]at h3;have h4:Ra.got x.id (aP.take k)+(aP[k]).2<=x.q:=by rw[hid];omega
 have hc:Ra.got x.id (aP.take k)<x.q:=by omega
 have hg:Bk.Good (Fs.gQ (aP.take k) l):=Fs.TS hok fun y _=>Fs.FZ _ _ fun f hf=>hpos f (List.mem_of_mem_take hf);rw[he,<- hid];refine⟨?_,?_,hg⟩
 ·have hh:Cv.has (Fs.gQ (aP.take k) l) x.id=true:=Fu.LZ.2 ⟨x,hx,rfl,hc⟩
  have hn:Cv.nth (Fs.gQ (aP.take k) l) (Bk.pos (Fs.gQ (aP.take k) l) x.id)=Bk.less x (Ra.got x.id (aP.take k)):=Fu.TT (c:=fun id=>Ra.got id (aP.take k)) hok.once hx hc;unfold Bk.lK;rw[if_pos hh,if_pos];rw[hn];have e5:(aP[k]).2<=(Bk.less x (Ra.got x.id (aP.take k))).q:=by show (aP[k]).2<=x.q-Ra.got x.id (aP.take k);omega
  unfold ah.aC;rw[bEq];exact⟨decide_eq_true hq,decide_eq_true e5⟩
 ·have:=Fu.aeN (c:=fun id=>Ra.got id (aP.take k)) hok.once hx hq h4
  unfold Fs.gQ;rw[Fs.LY aP hk,this,hid]
section
variable {w W:World} {F P:Nat} {I b:Nat->Nat} {v:Nat->Value} {L:Nat->List Cv.ag} {pf n:Nat->Int} {wd h:Int} {ev:Nat->Value}
theorem aeO {wr:World} {B:Nat} {f:Nat->Int} {o:Oper} {a:Act} {K:Act->Prop} (hp:aN wr 213 B f) (x:Operand) (ho:o.op=.load 213 x) (hx:a.eval x=.pointer (some ⟨B,0,none⟩)) (hk:K (a.put o.dst (.agg (bU f)))):o.quiet Tryz.prog a (fun w'=>∃ m,w'=wr.drewN m) K :=
 ⟨_,fun w ⟨m,hm⟩=>by
  subst hm;unfold Oper.quietAt execOp;simp only[ho,hx,Instr.loadAt,Instr.sureAddr,Sem.run_bind,Sem.run_pure,Result.andThen_ok,L5 (hp.drew m)];exact⟨rfl,rfl⟩,hk⟩
theorem aeP (T:TypeId) (v1 v5 v6 v7:Value):sN T v1 v5 v6 v7 0=.nilIface:=rfl
theorem aem (i:Nat) (hi:i<3) (price:Int) (h_:Value) (aP:List (Int×Int)) (hF:Hid (aU w W F P I b v L pf n wd h)) (he:Hid (dR w ev)) (hok:Hid (Fs.dO L pf)) (L6:Hid (Fs.vt (L i) price aP)) (hp1:1<=price) (hp2:price<=1000) (hrow:Hid (eZ W h_ aP)) (hlen:aP.length<=200) (hnil:aP≠[]) :
  Calls Tryz.prog 223 #[.pointer (some ⟨F,0,none⟩),.int .i64 i,.int .i64 price,h_] W fun e W'=>e=.returned .nilIface∧∃ v',aU w W' F P I b v' (upd L i (Fs.gQ aP (L i))) (Fs.gN pf i price (L i) aP) n wd h∧bC W W' P I b v v'∧eZ W' h_ aP∧Fs.dO (upd L i (Fs.gQ aP (L i))) (Fs.gN pf i price (L i) aP):=by
 have ci:=hF.out.vw hi;have cb:=hF.out.vy hi;have tB:=hF.out.cellP;have h0:(0:Int)<=(i:Int):=by omega
 have h3:(i:Int)<3:=by omega
 have nT:=hDq (aeQ P pf W hF.out.cy);obtain⟨Bp,L8,iy⟩:∃ Bp L8,h_=.slice (some ⟨Bp,0,none⟩) aP.length L8:=by
  rcases hrow.out with ⟨h,_⟩ | ⟨g,cap,cur,h1,_⟩
  ·exact absurd h hnil
  ·exact⟨g,cap,h1⟩
 subst iy;obtain⟨m,hm⟩:∃ m,aP.length=m:=⟨_,rfl⟩;obtain⟨G,hG⟩:∃ G,Fs.gN pf i price (L i) aP=G:=⟨_,rfl⟩;rw[hG];have HM:=hDq hm;have HG:=hDq hG;rw[hm]at hlen hrow;rw[hm];clear hm hG;go_enter Tryz.func223,Tryz.ntmps223
 go_wp2_with fail
 refine nT.out.mono ?_;rintro e w1 ⟨rfl,TU,hb1⟩;have mO:=hDq TU;have HB1:=hDq hb1;clear TU hb1 nT ci cb tB;obtain⟨NX,F0⟩:∃ NX,W.heap.size=NX:=⟨_,rfl⟩;rw[F0]at mO;rw[F0];have Bq:=hDq F0;clear F0;have HR1:=hDq (hrow.out.later HB1.out);have L9:=hDq ((hF.out.aB i hi).later HB1.out);have TV:=hDq (SI (b i) w.heap.size (v i) _ 0 (L i) aP w1 L9.out (hok.out.aB i hi).len (by rw[HM.out];omega) HR1.out.TJ);simp only[]
 go_wp2_with fail
 refine TV.out.mono ?_;rintro e w2 ⟨vb,rfl,tC,hb2⟩;have TW:=hDq tC;have mP:=hDq hb2;clear tC hb2 TV;have TX:=hDq (SI (b i) w.heap.size (v i) _ 1 (L i) aP w2 (L9.out.later mP.out) (hok.out.aB i hi).len (by rw[HM.out];omega) (HR1.out.later mP.out).TJ);simp only[]
 go_wp2_with fail
 refine TX.out.mono ?_;rintro e w3 ⟨vs,rfl,hos,hb3⟩;have TY:=hDq hos;have L_:=hDq hb3;clear hos hb3 TX;have Ma:Below w1.heap.size w1 w3:=mP.out.trans (L_.out.mono mP.out.size);have F2:Below W.heap.size W w3:=HB1.out.trans (Ma.mono HB1.out.size);obtain⟨fh,gs,tC,hos,hne,hgb,F3⟩:=aeE (B:=W.heap.size) TW.out L_.out TY.out HB1.out.size (lRq _) (lTq HB1.out.size mP.out.size);have j0:=hok.out.start hi L6.out;have hl1:=Ky (L i) 0 aP;have hl2:=Ky (L i) 1 aP;rw[HM.out]at hl1 hl2;have iD:=hDq (aeR NX i W.heap.size fh gs price vb vs _ _ pf _ ev w3 hi hp1 hp2 (fun W' hb=>(hF.out.bP he.out).below (F2.trans hb)) ⟨F2.size,by rw[Bq.out];exact lRq _,hgb,F3⟩ hne tC hos (mO.out.gi Ma) j0 (by show _<=_;omega) (by show _<=_;omega));have T4:=hDq F2;clear Ma F2 tC hos hne hgb F3 j0 hl1 hl2 TW TY mP L_ HB1 mO HR1 L9;simp only[]
 go_wp2_with fail
 refine iD.out.mono ?_;rintro e w4 ⟨rfl,⟨T5,hg4,T6,fA⟩,hb4⟩;have T7:Below W.heap.size W w4:=T4.out.trans hb4;have hset:=hok.out.settled hi L6.out hg4 T6 fA;have z8:=hDq hset;have mI:=hDq T5;have F4:=hDq T7;clear T5 hg4 T6 fA hb4 T7 hset iD T4;rw[HG.out]at z8 mI;have cG:=hDq (hF.out.later F4.out);have cY:=hDq (bC.of_below F4.out P I b v);have bF:=hDq (hrow.out.later F4.out);clear F4 HG;have T8:=hDq (fun k (hk:k<aP.length)=>aeM (hok.out.aB i hi) L6.out hk);have HST:Hid (upd L i (Fs.gQ (aP.take 0) (L i))=L):=by
  show _=_;rw[List.take_zero,show Fs.gQ [] (L i)=L i from Fu.T9 (hok.out.aB i hi).oks,qO]
 have an4:Hid (w.heap.size<=NX):=by show _<=_;rw[<- Bq.out];exact hF.out.dv.size
 simp only[]
 go_wp2_with fail
 go_loopw [44] (fun c wr=>∃ (k:Nat) (lg:Nat->Value),k<=m∧c=.int .i64 k∧aU w wr F P I b lg (upd L i (Fs.gQ (aP.take k) (L i))) pf n wd h∧bC W wr P I b v lg∧eZ wr (.slice (some ⟨Bp,0,none⟩) m L8) aP∧aN wr 213 NX G) (fun c _=>m-(intOf c).toNat)
 case atStart=>exact⟨0,v,Nat.zero_le _,rfl,by rw[HST.out];exact cG.out,cY.out,bF.out,mI.out⟩
 case round =>
  obtain⟨k,lg,hk,rfl,hf,hs,hr,hp⟩:=hrel;have nI:=hDq hf;have s6:=hDq hs;have qb:=hDq hr;have Br:=hDq hp;clear hf hs hr hp cG cY bF mI;by_cases hlt:k<m
  ·have aK:(k:Int)<m:=by omega
   have hcell:wr.cell? ⟨Bp,k*2,none⟩=some (.int .i64 (ei aP k).1)∧wr.cell? ⟨Bp,k*2+1,none⟩=some (.int .i64 (ei aP k).2):=by
    rcases qb.out with ⟨h,_⟩ | ⟨g,cap,cur,h1,h2,_⟩
    ·exact absurd h hnil
    ·simp only[Value.slice.injEq,Option.some.injEq,Addr.mk.injEq]at h1
     obtain⟨⟨rfl,_,_⟩,_,_⟩:=h1;exact h2 k (by rw[HM.out];exact hlt)
   obtain⟨c0,c1⟩:=hcell;obtain⟨hC,hL,hG⟩:=T8.out k (by rw[HM.out];exact hlt);obtain⟨⟨id,q⟩,s7⟩:∃ f,ei aP k=f:=⟨_,rfl⟩;rw[s7]at c0 c1 hC hL;simp only[]at c0 c1 hC hL;have hb1:Below wr.heap.size wr (wr.alloc (.cells #[.int .i64 id,.int .i64 q] 300)):=(bRq _ _).alloc (lRq _) _;have jg:=hDq (nI.out.later hb1);have ib:=hDq (s6.out.below hb1);have jb:=hDq (qb.out.later hb1);have mJ:=hDq (Br.out.gi hb1);have F5:=jg.out.aB i hi;rw[upd_same]at F5;have rf:=hDq F5;have htk:=abv (b i) w.heap.size (lg i) id q (Fs.gQ (aP.take k) (L i)) 412 (ev 1) (ev 5) (ev 6) (ev 7) (wr.alloc (.cells #[.int .i64 id,.int .i64 q] 300)) (jg.out.bP he.out).Eo F5 hG;rw[hC,hL,aeP]at htk;have j7:=hDq htk;clear hb1 F5 htk hC hL hG s7 nI s6 qb Br
   go_wp2_with fail
   refine j7.out.mono ?_;rintro e aj ⟨rfl,v6,hb6,gp⟩;have Mc:=jg.out.book hi hb6 gp;rw[vo]at Mc;have eA:=hDq Mc;have d_:=hDq (ib.out.trans (bC.Ep hi gp P I));have bu:=hDq (jb.out.book rf.out gp);have qj:Hid (aN aj 213 NX G):=by
    have vK:=mJ.out;show _=_;rw[gp.only.block NX (lBq vK) (fun e=>by
     have:NX=b i:=by simpa using e
     exact aA vK rf.out.cell (by decide) this) (fun e=>iM rf.out.row vK (by decide) e.symm)]
    exact vK
   clear hb6 gp Mc j7 jg ib jb mJ rf;simp only[];go_wp2;refine⟨⟨k+1,_,by omega,by go_num,eA.out,d_.out,bu.out,qj.out⟩,by simp[intOf];omega⟩
  ·have aK:¬ (k:Int)<m:=by omega
   have eU:aP.take k=aP:=List.take_of_length_le (by rw[HM.out];omega);rw[eU]at nI;clear eU T8 HST;have tB:=nI.out.cellP;have aeS:∀ q,(loadVar 213 ⟨NX,0,none⟩).run Tryz.prog (wr.drewN q)=.ok (.agg (bU G)) (wr.drewN q):=fun q=>L5 (Br.out.drew q)
   go_wp2_with fail
   refine jW 8 (by kernel_rfl) (by kernel_rfl) ?_;simp only[List.take_succ_cons,List.take_zero,List.drop_succ_cons,List.drop_zero]
   iterate 6 (first | go_big_quiet_step (fail) | quiet_step (fail))
   refine BigFrame.wpQuiet_want rfl (fun K hK=>aeO Br.out (.tmp 63) rfl rfl (hK _ ?_));simp only[Act.put]
   repeat (first | go_big_quiet_step (fail) | quiet_step (fail))
   refine wpQuiet_nil ?_;intro _ hw';obtain⟨nq,hw''⟩:=hw';subst hw'';have j5:=hDq (nI.out.later (dn nq));have lf:=hDq (s6.out.below (dn nq));have fG:=hDq (qb.out.later (dn nq));clear nI s6 qb Br tB aeS hK;generalize wr.drewN nq=bh at *
   go_wp2_with (refine F6 (B:=P) G (f:=pf) j5.out.cy rfl (.tmp 65) (.tmp 64) rfl rfl rfl ?_)
   go_ret;refine⟨rfl,lg,j5.out.purse (j5.out.cy.stored G) (aH.setRow _ _ _),lf.out.trans (bC.KB (aH.setRow _ _ _) I b lg),fG.out.save (aH.setRow _ _ _) j5.out.cy (by decide),z8.out⟩
end
theorem A6 {l:List Cv.ag} (h:Bk.Good l):Cv.eJ l:=by
 refine⟨by have:=h.len;omega,fun i hi=>?_⟩;unfold Cv.oK;rw[bEq];have TN:Cv.nth l i=l[i]:=by unfold Cv.nth;rw[gE,List.getElem?_eq_getElem hi];rfl
 refine⟨by rw[TN];exact h.oks _ (List.getElem_mem hi),?_⟩;rw[Bool.not_eq_true'];cases hh:Cv.has (l.take i) (Cv.nth l i).id with
 | false=>rfl
 | true =>
  exfalso;unfold Cv.has at hh;rw[List.any_eq_true]at hh;obtain⟨x,hx,he⟩:=hh;obtain⟨j,hj,rfl⟩:=List.mem_iff_getElem.1 hx;have a_:j<i:=by simp only[List.length_take]at hj;omega
  rw[List.getElem_take]at he;have e1:(l[j]'(by omega)).id=(l[i]).id:=by rw[<- TN];simpa using he
  have hn:(l.map (·.id)).Nodup:=h.once;have h3:=List.pairwise_iff_getElem.1 hn j i (by simp;omega) (by simpa using hi) a_;exact h3 (by simpa using e1)
theorem TP {l:List Cv.ag} (hl:Cv.dM l) (ref:Int):∀ k:Nat,∃ p v,Cv.eN l ref k p v
 | 0=>⟨0,0,Cv.eN.start l ref⟩
 | k+1=>by
  obtain⟨p,v,hw⟩:=TP hl ref k;have e:((k+1:Nat):Int)=(k:Int)+1:=by omega
  rw[e];cases hb:Cv.sQ (Cv.dN l (k+1)) (Cv.left l (k+1)) (Cv.away ref (k+1)) v (Cv.wl l p) (Cv.cq ref p) with
  | true=>exact⟨_,_,hw.take hl (by omega) hb⟩
  | false=>exact⟨_,_,hw.keep hl hb⟩
def LX (A D F:Nat) (ra rd j6:Obj) (W:World):Prop:=W.heap[A]?=some ra∧W.heap[D]?=some rd∧W.heap[F]?=some j6
theorem AQ (A D F:Nat) (ra rd j6:Obj):∃ (X:Type) (val:X->World),(∀ x,LX A D F ra rd j6 (val x))∧∀ W,LX A D F ra rd j6 W->∃ x,val x=W :=
 ⟨{ W:World // LX A D F ra rd j6 W },fun x=>x.1,fun x=>x.2,fun W h=>⟨⟨W,h⟩,rfl⟩⟩
theorem Kl {w:World} {base:Nat} {v:Value} {l:List Cv.ag} (h:w.ownsRow base 197 5 v l.length (flat l)):gC w v l:=by
 obtain⟨g,h1,_⟩:=dV.Bh h;rcases h1 with h1 | ⟨o,cap,cur,e,h2,h3,_⟩
 ·exact .inl h1
 ·exact .inr ⟨g,o,cap,e,h2,h3⟩
namespace Fl
def nS (s:Int) (l:List Cv.ag) (o:Bool) (p vol:Int):List (Int×Int):=if o=true∧0<vol then Ra.fills s l p vol else []
end Fl
theorem aek (v:Value) (l:List Cv.ag) (price vol s:Int) (T:TypeId) (v1 v2 v6 v7:Value) (w:World) (hv:gC w v l) (he:gK w T v1 v6 v7) (c2:w.cell? ⟨3,0,none⟩=some (.iface T v2)) (hf:Ra.lU l price vol) (hs:Ra.IsU s) :
  Calls Tryz.prog 222 #[v,.int .i64 price,.int .i64 vol,.int .u32 s] w fun e w'=>∃ v',e=.returned (.tuple #[v',.nilIface])∧eZ w' v' (Ra.fills s l price vol)∧Below w.heap.size w w':=by
 obtain⟨hw,⟨h1,h2⟩,h3,h4⟩:=hf;have hvl:=aeI hw price;obtain⟨a,n,cap,rfl⟩:=hv.form;have kZ:=aeJ a n cap price vol (Cv.dN l price) T v2 w (Jy _ l T v1 v6 v7 w hv he hw) c2 (by show ah.aC price 1 1000=true;simp[ah.aC,h1,h2]) (by omega) (fun w1 hb=>acK _ l price T v1 v6 v7 w1 (hv.later hb) (he.later hb) hw);rw[if_neg (by omega)]at kZ;have hl:=Ra.TQ s (l:=l) (price:=price) (vol:=vol) ⟨hw,⟨h1,h2⟩,h3,h4⟩;refine(aeK a n cap price vol s (Ra.q7 s) l _ _ w kZ hv hw h1 h2 h3 (by omega) hs (Ra.aeL hs) ?_ rfl rfl hl.1 hl.2).mono ?_
 ·unfold Ra.q7
  by_cases e:s=4294967295
  ·exact .inl ⟨e,by rw[if_pos e]⟩
  ·exact .inr ⟨hs.1,by have:=hs.2;omega,by rw[if_neg e]⟩
 ·rintro e w' ⟨v',rfl,hr,hb⟩
  exact⟨v',rfl,eZ.Bh hr,hb⟩
def A5 (p vol:Int) (o:Bool) (v:Value):Value:=.agg #[.int .i64 p,.int .i64 vol,.bool o,v]
theorem vG {W:World} {R:Nat} (hz:W.heap[R]?=some (.cells #[.int .i64 0,.int .i64 0,.bool false,.slice none 0 0] 296 (0,0))) (p vol:Int) (o:Bool) (u:Value) :
  ((((W.setCell ⟨R,0,none⟩ (.int .i64 p)).setCell ⟨R,1,none⟩ (.int .i64 vol)).setCell ⟨R,2,none⟩ (.bool o)).setCell ⟨R,3,none⟩ u).heap[R]?=some (.cells #[.int .i64 p,.int .i64 vol,.bool o,u] 296 (0,0)):=by
 have h0:(W.setCell ⟨R,0,none⟩ (.int .i64 p)).heap[R]?=some (.cells #[.int .i64 p,.int .i64 0,.bool false,.slice none 0 0] 296 (0,0)):=by
  rw[setCell_eq_setRow _ R 0 _ _ _ _ hz];exact setRow_heap _ R _ _ _ _ hz
 have h1:((W.setCell ⟨R,0,none⟩ (.int .i64 p)).setCell ⟨R,1,none⟩ (.int .i64 vol)).heap[R]?=some (.cells #[.int .i64 p,.int .i64 vol,.bool false,.slice none 0 0] 296 (0,0)):=by
  rw[setCell_eq_setRow _ R 1 _ _ _ _ h0];exact setRow_heap _ R _ _ _ _ h0
 have h2:(((W.setCell ⟨R,0,none⟩ (.int .i64 p)).setCell ⟨R,1,none⟩ (.int .i64 vol)).setCell ⟨R,2,none⟩ (.bool o)).heap[R]?=some (.cells #[.int .i64 p,.int .i64 vol,.bool o,.slice none 0 0] 296 (0,0)):=by
  rw[setCell_eq_setRow _ R 2 _ _ _ _ h1];exact setRow_heap _ R _ _ _ _ h1
 rw[setCell_eq_setRow _ R 3 _ _ _ _ h2];exact setRow_heap _ R _ _ _ _ h2
theorem aH.put {W W1:World} {q:Nat} (h:aH W W1 q) (o:Nat) (x:Value):aH W (W1.setCell ⟨q,o,none⟩ x) q:=h.trans (aH.setCell _ _ _ _)
theorem bC.newer {W W1 W2:World} {P:Nat} {I b:Nat->Nat} {v v1:Nat->Value} (h:bC W W1 P I b v v1) {q:Nat} (hs:aH W1 W2 q) (hq:W.heap.size<=q):bC W W2 P I b v v1 :=
 ⟨hs.os.trans h.os,hs.tape.trans h.tape,hs.output.trans h.output,lTq h.size hs.size,fun k hk h1 h2=>by rw[hs.block k (Nat.lt_of_lt_of_le hk h.size) (by omega)];exact h.keep k hk h1 h2,h.new⟩
section
variable {w W:World} {F P:Nat} {I b:Nat->Nat} {v:Nat->Value} {L:Nat->List Cv.ag} {pf n:Nat->Int} {wd h:Int} {ev:Nat->Value}
theorem aeH (i:Nat) (hi:i<3) (s p vol:Int) (hF:Hid (aU w W F P I b v L pf n wd h)) (he:Hid (dR w ev)) (hok:Hid (Fs.dO L pf)) (A4:Hid (aO.kz (n (i*2)) (n (i*2+1))=true)) (Lr:Hid (aO.iz wd h=true)) (jz:Hid (Cv.eN (L i) (n (i*2)) 1000 p vol)) (hst:aO.nx (n (i*2)) (n (i*2+1)) wd p vol=false∨vol=0) :
  Calls Tryz.prog 191 #[.pointer (some ⟨F,0,none⟩),.int .i64 i,.int .u32 s] W fun e W'=>e=.returned (.tuple #[A5 p vol (aO.nx (n (i*2)) (n (i*2+1)) wd p vol) (.slice none 0 0),.nilIface])∧aU w W' F P I b v L pf (upd (upd n (i*2) (aO.nt (n (i*2)) (n (i*2+1)) wd p vol)) (i*2+1) (aO.nu (n (i*2)) (n (i*2+1)) wd h p vol)) wd h∧bC W W' P I b v v:=by
 have hgw:=A6 (hok.out.aB i hi);have hr:ah.aC (n (i*2)) 1 1000=true:=by
  have:=A4.out
  simp only[aO.kz,Bool.and_eq_true]at this;exact this.1
 have A9:aO.mo p vol=true:=by
  rcases jz.out with ⟨e1,e2,_⟩ | ⟨e1,e2,e3,_⟩
  ·rw[e2];simp[aO.mo]
  ·simp[aO.mo,ah.aC,e2,e3];omega
 have A_:Hid (∀ W' u,gC W' u (L i)->gK W' 412 (ev 1) (ev 6) (ev 7)->Calls Tryz.prog 220 #[u,.int .i64 (n (i*2))] W' fun e w'=>e=.returned (.tuple #[.int .i64 p,.int .i64 vol,.nilIface])∧Below W'.heap.size W' w'):=fun W' u hu jh=>by
  refine(Q6 u (L i) (n (i*2)) 412 (ev 1) (ev 6) (ev 7) W' hu jh hgw hr).mono ?_;rintro e w' ⟨⟨p',aej,rfl,hw'⟩,hbl⟩;obtain⟨e1,e2⟩:=hw'.unique jz.out;rw[e1,e2];exact⟨rfl,hbl⟩
 have qg:=hDq (fun W' (jh:mq W' 412 (ev 1))=>QC (n (i*2)) (n (i*2+1)) wd h p vol 412 (ev 1) W' jh (by rw[A4.out,Lr.out,A9];rfl));unfold oG dx at qg;clear hgw hr A9;generalize Lv:aO.nt (n (i*2)) (n (i*2+1)) wd p vol=nr at *;generalize hnl:aO.nu (n (i*2)) (n (i*2+1)) wd h p vol=nl at *;generalize hno:aO.nx (n (i*2)) (n (i*2+1)) wd p vol=no at *;clear Lv hnl hno;obtain⟨R,hR⟩:∃ R,W.heap.size=R:=⟨_,rfl⟩;obtain⟨w1,dS⟩:∃ w1,W.alloc (.cells #[.int .i64 0,.int .i64 0,.bool false,.slice none 0 0] 296)=w1:=⟨_,rfl⟩;have hb1:Below W.heap.size W w1:=by rw[<- dS];exact(bRq _ _).alloc (lRq _) _
 have HR1:Hid (w1.heap[R]?=some (.cells #[.int .i64 0,.int .i64 0,.bool false,.slice none 0 0] 296 (0,0))):=by show _=_;rw[<- dS,<- hR];exact hNq _ _
 have fe:=hDq (hF.out.later hb1);have fg:=hDq (bC.of_below hb1 P I b v);have Ba:=hDq (FL i hi fe.out);have nz:=hDq (xG (b i) w.heap.size (v i) (L i) w1 (fe.out.aB i hi) (hok.out.aB i hi).len);have cb:=fe.out.vy hi;have HW1:=hDq dS;have iK:=hDq hR;clear hb1 dS hR;go_enter Tryz.func191,Tryz.ntmps191
 go_wp2_with fail
 rw[HW1.out,iK.out];refine Ba.out.mono ?_;rintro e w1 ⟨rfl,rfl⟩;simp only[]
 go_wp2_with fail
 refine nz.out.mono ?_;rintro e w2 ⟨v2,rfl,hrow2,hb2⟩;have q8:Hid (gC w2 v2 (L i)):=Kl hrow2;have bT:=hDq (fe.out.later hb2);have HS2:=hDq (fg.out.below hb2);have aT:Hid (w2.heap[R]?=some (.cells #[.int .i64 0,.int .i64 0,.bool false,.slice none 0 0] 296 (0,0))):=by show _=_;rw[hb2.block _ (lBq HR1.out)];exact HR1.out
 clear hrow2 hb2 Ba nz cb fe fg HR1 HW1;have Lx:=bT.out.KD hi;have fT:=hDq (A_.out w2 v2 q8.out (bT.out.bP he.out).bP);obtain⟨sa,sm,sc,hv2⟩:=q8.out.form;subst hv2;simp only[]
 go_wp2_with fail
 refine fT.out.mono ?_;rintro e w3 ⟨rfl,hb3⟩;have fR:=hDq (bT.out.later hb3);have dy:=hDq (HS2.out.below hb3);have Bb:=hDq (q8.out.later hb3);have HR3:Hid (w3.heap[R]?=some (.cells #[.int .i64 0,.int .i64 0,.bool false,.slice none 0 0] 296 (0,0))):=by show _=_;rw[hb3.block _ (lBq aT.out)];exact aT.out
 clear hb3 bT HS2 q8 aT Lx A_ fT;simp only[]
 go_wp2_with fail
 obtain⟨bZ,val,hcl,aW⟩:=AQ F (I i) F (.cells (sZ I P wd h) 210 (0,0)) (.cells (s4 (b i) (n (i*2)) (n (i*2+1))) 267 (0,0)) (.cells (sZ I P wd h) 210 (0,0));obtain⟨x0,hx0⟩:=aW w3.drew ⟨fR.out.blk,fR.out.it i hi,fR.out.blk⟩;have hnx:Nonempty bZ:=⟨x0⟩;have en:∀ x,(val x).cell? ⟨I i,1,none⟩=some (.int .i64 (n (i*2))):=fun x=>by rw[cR _ _ _ _ _ _ (hcl x).2.1];rfl
 have em:∀ x,(val x).cell? ⟨I i,2,none⟩=some (.int .i64 (n (i*2+1))):=fun x=>by rw[cR _ _ _ _ _ _ (hcl x).2.1];rfl
 have LA:∀ x,(val x).cell? ⟨F,0,none⟩=some (.int .i64 wd):=fun x=>by rw[cR _ _ _ _ _ _ (hcl x).1];rfl
 have eh:∀ x,(val x).cell? ⟨F,1,none⟩=some (.int .i64 h):=fun x=>by rw[cR _ _ _ _ _ _ (hcl x).1];rfl
 have hbd:Below w3.heap.size w3 w3.drew:=⟨rfl,rfl,rfl,lRq _,fun _ _=>rfl⟩;have cG:=hDq (fR.out.later hbd);have cY:=hDq (dy.out.below hbd);have vC:=hDq (Bb.out.later hbd);have bF:Hid (w3.drew.heap[R]?=some (.cells #[.int .i64 0,.int .i64 0,.bool false,.slice none 0 0] 296 (0,0))):=HR3.out;obtain⟨w4,hw4⟩:∃ w4,w3.drew=w4:=⟨_,rfl⟩;rw[hw4]at cG cY vC bF;have aV:Hid (∀ W',Below w4.heap.size w4 W'->∃ x,val x=W'):=fun W' hb=>aW W' ⟨(cG.out.later hb).blk,(cG.out.later hb).it i hi,(cG.out.later hb).blk⟩;have vD:Hid (∀ W',Below w4.heap.size w4 W'->mq W' 412 (ev 1)):=fun W' hb=>((cG.out.later hb).bP he.out).KA;clear aW hcl fR dy Bb HR3 hbd;refine xU (val:=val) (fun D aj=>aj.heap[D]?=some (.cells #[.int .i64 nr,.int .i64 nl] 192 (0,0))∧w4.heap.size<=D∧Below w4.heap.size w4 aj) (.read 0 (.read 1 (.read 2 (.read 3 (.read 4 (.read 5 (.read 6 (.read 7 (.read 8 (.read 9 (.two 10 (.read 11 (.read 12 (.read 13 (.read 14 (.one 15 (.one 16 (.read 17 (.read 18 .done)))))))) 15 (.one 10 (.read 11 (.read 12 (.read 13 (.read 14 (.one 16 (.read 17 (.read 18 .done))))))))))))))))))) (by kernel_rfl) (by kernel_rfl) x0 hx0 ?_;apply Exists.intro;refine⟨?_,?_⟩
 case' refine_1 =>
  rw[hx0,hw4]
  iterate 10 (refine cF rfl (fun K hK=>?_);refine⟨by rfl,?_⟩;unfold aI;go_simp;refine hK _ ?_;clear hK K)
  have fI:Hid (Below w4.heap.size w4 w4):=bRq _ _;refine⟨?_,?_⟩
  case refine_1 =>
   refine b_ rfl (fun K hK=>?_);refine⟨by rfl,?_⟩;unfold aR;go_simp;refine(qg.out _ (vD.out _ fI.out)).mono ?_;rintro e wc ⟨rfl,hbc⟩;have gb:=hDq (fI.out.trans (hbc.mono fI.out.size));refine⟨_,rfl,aV.out _ gb.out,hK _ _ ?_⟩;clear hK K hbc
   iterate 4 (refine cF rfl (fun K hK=>?_);refine⟨by rfl,?_⟩;unfold aI;go_simp;refine hK _ ?_;clear hK K)
   refine b_ rfl (fun K hK=>?_);refine⟨by rfl,?_⟩;unfold aR;go_simp;obtain⟨D,hD⟩:∃ D,wc.heap.size=D:=⟨_,rfl⟩;obtain⟨ar,hwz⟩:∃ ar,wc.alloc (.cells #[.int .i64 0,.int .i64 0] 192)=ar:=⟨_,rfl⟩;rw[hD,hwz];have b9:Hid (Below w4.heap.size w4 ar):=by show Below _ _ _;rw[<- hwz];exact gb.out.alloc gb.out.size _
   have ay:Hid (ar.heap[D]?=some (.cells #[.int .i64 0,.int .i64 0] 192 (0,0))):=by show _=_;rw[<- hwz,<- hD];exact hNq _ _
   have eX:Hid (w4.heap.size<=D):=by have:=gb.out.size;show _<=_;omega
   refine⟨aV.out _ b9.out,hK _ _ ?_⟩;clear hK K hwz hD;have c0:ar.cell? ⟨D,0,none⟩=some (.int .i64 0):=by rw[cR ar _ 0 _ _ _ ay.out];rfl
   have c1:ar.cell? ⟨D,1,none⟩=some (.int .i64 0):=by rw[cR ar _ 1 _ _ _ ay.out];rfl
   have f0:ar.frozen? ⟨D,0,none⟩=false:=by simp[World.frozen?,ay.out]
   have f1:ar.frozen? ⟨D,1,none⟩=false:=by simp[World.frozen?,ay.out]
   have HX:Hid (((ar.setCell ⟨D,0,none⟩ (.int .i64 nr)).setCell ⟨D,1,none⟩ (.int .i64 nl)).heap[D]?=some (.cells #[.int .i64 nr,.int .i64 nl] 192 (0,0))):=by
    have h0:(ar.setCell ⟨D,0,none⟩ (.int .i64 nr)).heap[D]?=some (.cells #[.int .i64 nr,.int .i64 0] 192 (0,0)):=by
     rw[setCell_eq_setRow ar D 0 _ _ _ _ ay.out];exact setRow_heap ar D _ _ _ _ ay.out
    show _=_;rw[setCell_eq_setRow _ D 1 _ _ _ _ h0];exact setRow_heap _ D _ _ _ _ h0
   have aS:Hid (Below w4.heap.size w4 ((ar.setCell ⟨D,0,none⟩ (.int .i64 nr)).setCell ⟨D,1,none⟩ (.int .i64 nl))):=(b9.out.setCell (p:=⟨D,0,none⟩) eX.out _).setCell (p:=⟨D,1,none⟩) eX.out _;refine b_ rfl (fun K hK=>?_);refine⟨by rfl,?_⟩;unfold aR;go_simp;refine⟨aV.out _ aS.out,hK _ _ ?_⟩;clear hK K ay c0 c1 f0 f1;generalize (ar.setCell ⟨D,0,none⟩ (.int .i64 nr)).setCell ⟨D,1,none⟩ (.int .i64 nl)=aj at *
   iterate 2 (refine cF rfl (fun K hK=>?_);refine⟨by rfl,?_⟩;unfold aI;go_simp;refine hK _ ?_;clear hK K)
   refine kD ?_;exact⟨D,rfl,HX.out,eX.out,aS.out⟩
  case refine_2 =>
   refine b_ rfl (fun K hK=>?_);refine⟨by rfl,?_⟩;unfold aR;go_simp;obtain⟨D,hD⟩:∃ D,w4.heap.size=D:=⟨_,rfl⟩;obtain⟨iL,hwz⟩:∃ ar,w4.alloc (.cells #[.int .i64 0,.int .i64 0] 192)=ar:=⟨_,rfl⟩;rw[hD,hwz];have dU:Hid (Below w4.heap.size w4 iL):=by show Below _ _ _;rw[<- hwz];exact fI.out.alloc fI.out.size _
   have oW:Hid (iL.heap[D]?=some (.cells #[.int .i64 0,.int .i64 0] 192 (0,0))):=by show _=_;rw[<- hwz,<- hD];exact hNq _ _
   have eX:Hid (w4.heap.size<=D):=by have:=fI.out.size;show _<=_;omega
   refine⟨aV.out _ dU.out,hK _ _ ?_⟩;clear hK K hwz hD;refine b_ rfl (fun K hK=>?_);refine⟨by rfl,?_⟩;unfold aR;go_simp;refine(qg.out _ (vD.out _ dU.out)).mono ?_;rintro e ar ⟨rfl,hbc⟩;have b9:=hDq (dU.out.trans (hbc.mono dU.out.size));have ay:Hid (ar.heap[D]?=some (.cells #[.int .i64 0,.int .i64 0] 192 (0,0))):=by show _=_;rw[hbc.block _ (lBq oW.out)];exact oW.out
   refine⟨_,rfl,aV.out _ b9.out,hK _ _ ?_⟩;clear hK K hbc
   iterate 4 (refine cF rfl (fun K hK=>?_);refine⟨by rfl,?_⟩;unfold aI;go_simp;refine hK _ ?_;clear hK K)
   have c0:ar.cell? ⟨D,0,none⟩=some (.int .i64 0):=by rw[cR ar _ 0 _ _ _ ay.out];rfl
   have c1:ar.cell? ⟨D,1,none⟩=some (.int .i64 0):=by rw[cR ar _ 1 _ _ _ ay.out];rfl
   have f0:ar.frozen? ⟨D,0,none⟩=false:=by simp[World.frozen?,ay.out]
   have f1:ar.frozen? ⟨D,1,none⟩=false:=by simp[World.frozen?,ay.out]
   have HX:Hid (((ar.setCell ⟨D,0,none⟩ (.int .i64 nr)).setCell ⟨D,1,none⟩ (.int .i64 nl)).heap[D]?=some (.cells #[.int .i64 nr,.int .i64 nl] 192 (0,0))):=by
    have h0:(ar.setCell ⟨D,0,none⟩ (.int .i64 nr)).heap[D]?=some (.cells #[.int .i64 nr,.int .i64 0] 192 (0,0)):=by
     rw[setCell_eq_setRow ar D 0 _ _ _ _ ay.out];exact setRow_heap ar D _ _ _ _ ay.out
    show _=_;rw[setCell_eq_setRow _ D 1 _ _ _ _ h0];exact setRow_heap _ D _ _ _ _ h0
   have aS:Hid (Below w4.heap.size w4 ((ar.setCell ⟨D,0,none⟩ (.int .i64 nr)).setCell ⟨D,1,none⟩ (.int .i64 nl))):=(b9.out.setCell (p:=⟨D,0,none⟩) eX.out _).setCell (p:=⟨D,1,none⟩) eX.out _;refine b_ rfl (fun K hK=>?_);refine⟨by rfl,?_⟩;unfold aR;go_simp;refine⟨aV.out _ aS.out,hK _ _ ?_⟩;clear hK K ay c0 c1 f0 f1;generalize (ar.setCell ⟨D,0,none⟩ (.int .i64 nr)).setCell ⟨D,1,none⟩ (.int .i64 nl)=aj at *
   iterate 2 (refine cF rfl (fun K hK=>?_);refine⟨by rfl,?_⟩;unfold aI;go_simp;refine hK _ ?_;clear hK K)
   refine kD ?_;exact⟨D,rfl,HX.out,eX.out,aS.out⟩
 intro D aj ⟨oX,oY,hb6⟩;have HX:=hDq oX;have HDn:=hDq oY;have eA:=hDq (cG.out.later hb6);have d_:=hDq (cY.out.below hb6);have LB:=hDq (vC.out.later hb6);have bu:Hid (aj.heap[R]?=some (.cells #[.int .i64 0,.int .i64 0,.bool false,.slice none 0 0] 296 (0,0))):=by show _=_;rw[hb6.block _ (lBq bF.out)];exact bF.out
 clear oX oY hb6 cG cY vC bF qg hw4;clear hx0 en em LA eh aV vD;clear x0 hnx;clear val;clear bZ;have fC:=hDq (eA.out.it i hi);have d0:aj.cell? ⟨D,0,none⟩=some (.int .i64 nr):=by rw[cR aj _ 0 _ _ _ HX.out];rfl
 have d1:aj.cell? ⟨D,1,none⟩=some (.int .i64 nl):=by rw[cR aj _ 1 _ _ _ HX.out];rfl
 have i1:aj.cell? ⟨I i,1,none⟩=some (.int .i64 (n (i*2))):=by rw[cR aj _ 1 _ _ _ fC.out];rfl
 have i2:aj.cell? ⟨I i,2,none⟩=some (.int .i64 (n (i*2+1))):=by rw[cR aj _ 2 _ _ _ fC.out];rfl
 have j1:aj.frozen? ⟨I i,1,none⟩=false:=by simp[World.frozen?,fC.out]
 have j2:aj.frozen? ⟨I i,2,none⟩=false:=by simp[World.frozen?,fC.out]
 have r0:aj.cell? ⟨R,0,none⟩=some (.int .i64 0):=by rw[cR aj _ 0 _ _ _ bu.out];rfl
 have r1:aj.cell? ⟨R,1,none⟩=some (.int .i64 0):=by rw[cR aj _ 1 _ _ _ bu.out];rfl
 have r2:aj.cell? ⟨R,2,none⟩=some (.bool false):=by rw[cR aj _ 2 _ _ _ bu.out];rfl
 have r3:aj.cell? ⟨R,3,none⟩=some (.slice none 0 0):=by rw[cR aj _ 3 _ _ _ bu.out];rfl
 have q0:aj.frozen? ⟨R,0,none⟩=false:=by simp[World.frozen?,bu.out]
 have q1:aj.frozen? ⟨R,1,none⟩=false:=by simp[World.frozen?,bu.out]
 have q2:aj.frozen? ⟨R,2,none⟩=false:=by simp[World.frozen?,bu.out]
 have q3:aj.frozen? ⟨R,3,none⟩=false:=by simp[World.frozen?,bu.out]
 have vF:R<aj.heap.size:=lBq bu.out;have aeo:I i<aj.heap.size:=lBq fC.out;have hDl:D<aj.heap.size:=lBq HX.out;have aep:¬ R=aj.heap.size:=by omega
 have aeq:¬ I i=aj.heap.size:=by omega
 have hDn:¬ D=aj.heap.size:=by omega
 have Be:R≠I i:=aA bu.out fC.out (by decide);have aer:I i≠R:=Ne.symm Be;have aes:D≠I i:=aA HX.out fC.out (by decide);have aet:D≠R:=aA HX.out bu.out (by decide);have yq:Hid (((aj.setCell ⟨I i,1,none⟩ (.int .i64 nr)).setCell ⟨I i,2,none⟩ (.int .i64 nl)).heap[I i]?=some (.cells (s4 (b i) nr nl) 267 (0,0))):=by
  have h0:(aj.setCell ⟨I i,1,none⟩ (.int .i64 nr)).heap[I i]?=some (.cells #[.pointer (some ⟨b i,0,none⟩),.int .i64 nr,.int .i64 (n (i*2+1))] 267 (0,0)):=by
   rw[setCell_eq_setRow aj (I i) 1 _ _ _ _ fC.out];exact setRow_heap aj (I i) _ _ _ _ fC.out
  show _=_;rw[setCell_eq_setRow _ (I i) 2 _ _ _ _ h0];exact setRow_heap _ (I i) _ _ _ _ h0
 have eY:=hDq (eA.out.qc hi yq.out ((aH.setCell _ _ _ _).put _ _));have qT:=hDq (d_.out.trans (bC.SL hi ((aH.setCell aj (I i) 1 (.int .i64 nr)).put 2 (.int .i64 nl)) P b v));have eB:Hid (((aj.setCell ⟨I i,1,none⟩ (.int .i64 nr)).setCell ⟨I i,2,none⟩ (.int .i64 nl)).heap[R]?=some (.cells #[.int .i64 0,.int .i64 0,.bool false,.slice none 0 0] 296 (0,0))):=by
  show _=_;rw[((aH.setCell aj (I i) 1 (.int .i64 nr)).put 2 (.int .i64 nl)).block R vF Be];exact bu.out
 have Bf:Hid (w.heap.size<=R):=by have:=hF.out.dv.size;have:=iK.out;show _<=_;omega
 rcases hst with e | e
 ·subst e
  generalize pu:(aj.setCell ⟨I i,1,none⟩ (.int .i64 nr)).setCell ⟨I i,2,none⟩ (.int .i64 nl)=bK at *;have nM:Hid (aH bK ((((bK.setCell ⟨R,0,none⟩ (.int .i64 p)).setCell ⟨R,1,none⟩ (.int .i64 vol)).setCell ⟨R,2,none⟩ (.bool false)).setCell ⟨R,3,none⟩ (.slice none 0 0)) R):=(((aH.setCell _ R 0 (.int .i64 p)).put 1 (.int .i64 vol)).put 2 (.bool false)).put 3 (.slice none 0 0);have lm:=hDq ((eY.out.aside (aA eB.out eY.out.blk (by decide)) (aA eB.out eY.out.cy (by decide)) (fun j hj=>⟨aA eB.out (eY.out.it j hj) (by decide),aA eB.out (eY.out.aB j hj).cell (by decide),iM (eY.out.aB j hj).row eB.out (by decide)⟩) Bf.out nM.out).later ((bRq _ _).alloc (lRq _) (.cells #[.int .i64 p,.int .i64 vol,.bool false,.slice none 0 0] 296)));have ln:Hid (bC W (((((bK.setCell ⟨R,0,none⟩ (.int .i64 p)).setCell ⟨R,1,none⟩ (.int .i64 vol)).setCell ⟨R,2,none⟩ (.bool false)).setCell ⟨R,3,none⟩ (.slice none 0 0)).alloc (.cells #[.int .i64 p,.int .i64 vol,.bool false,.slice none 0 0] 296)) P I b v v):=(qT.out.newer nM.out (by rw[iK.out];exact lRq _)).below ((bRq _ _).alloc (lRq _) _);have ek:Hid ((((((bK.setCell ⟨R,0,none⟩ (.int .i64 p)).setCell ⟨R,1,none⟩ (.int .i64 vol)).setCell ⟨R,2,none⟩ (.bool false)).setCell ⟨R,3,none⟩ (.slice none 0 0)).alloc (.cells #[.int .i64 p,.int .i64 vol,.bool false,.slice none 0 0] 296)).heap[R]?=some (.cells #[.int .i64 p,.int .i64 vol,.bool false,.slice none 0 0] 296 (0,0))):=(Below.heap_alloc _ _ _ (lBq (vG eB.out p vol false _))).trans (vG eB.out p vol false _);have mN:=hDq pu;clear pu;go_wp2;rw[mN.out];generalize (((((bK.setCell ⟨R,0,none⟩ (.int .i64 p)).setCell ⟨R,1,none⟩ (.int .i64 vol)).setCell ⟨R,2,none⟩ (.bool false)).setCell ⟨R,3,none⟩ (.slice none 0 0)).alloc (.cells #[.int .i64 p,.int .i64 vol,.bool false,.slice none 0 0] 296))=Wf at *;have z0:Wf.cell? ⟨R,0,none⟩=some (.int .i64 p):=by rw[cR Wf _ 0 _ _ _ ek.out];rfl
  have cK:Wf.cell? ⟨R,1,none⟩=some (.int .i64 vol):=by rw[cR Wf _ 1 _ _ _ ek.out];rfl
  have z2:Wf.cell? ⟨R,2,none⟩=some (.bool false):=by rw[cR Wf _ 2 _ _ _ ek.out];rfl
  have z3:Wf.cell? ⟨R,3,none⟩=some (.slice none 0 0):=by rw[cR Wf _ 3 _ _ _ ek.out];rfl
  exact bodyPost_ret (v:=.tuple #[.agg #[.int .i64 p,.int .i64 vol,.bool false,.slice none 0 0],.nilIface]) (by simp[results,Tryz.results191,go_sem,z0,cK,z2,z3]) rfl ⟨rfl,lm.out,ln.out⟩
 ·subst e
  cases no
  ·skip
   generalize pu:(aj.setCell ⟨I i,1,none⟩ (.int .i64 nr)).setCell ⟨I i,2,none⟩ (.int .i64 nl)=bK at *;have nM:Hid (aH bK ((((bK.setCell ⟨R,0,none⟩ (.int .i64 p)).setCell ⟨R,1,none⟩ (.int .i64 0)).setCell ⟨R,2,none⟩ (.bool false)).setCell ⟨R,3,none⟩ (.slice none 0 0)) R):=(((aH.setCell _ R 0 (.int .i64 p)).put 1 (.int .i64 0)).put 2 (.bool false)).put 3 (.slice none 0 0);have lm:=hDq ((eY.out.aside (aA eB.out eY.out.blk (by decide)) (aA eB.out eY.out.cy (by decide)) (fun j hj=>⟨aA eB.out (eY.out.it j hj) (by decide),aA eB.out (eY.out.aB j hj).cell (by decide),iM (eY.out.aB j hj).row eB.out (by decide)⟩) Bf.out nM.out).later ((bRq _ _).alloc (lRq _) (.cells #[.int .i64 p,.int .i64 0,.bool false,.slice none 0 0] 296)));have ln:Hid (bC W (((((bK.setCell ⟨R,0,none⟩ (.int .i64 p)).setCell ⟨R,1,none⟩ (.int .i64 0)).setCell ⟨R,2,none⟩ (.bool false)).setCell ⟨R,3,none⟩ (.slice none 0 0)).alloc (.cells #[.int .i64 p,.int .i64 0,.bool false,.slice none 0 0] 296)) P I b v v):=(qT.out.newer nM.out (by rw[iK.out];exact lRq _)).below ((bRq _ _).alloc (lRq _) _);have ek:Hid ((((((bK.setCell ⟨R,0,none⟩ (.int .i64 p)).setCell ⟨R,1,none⟩ (.int .i64 0)).setCell ⟨R,2,none⟩ (.bool false)).setCell ⟨R,3,none⟩ (.slice none 0 0)).alloc (.cells #[.int .i64 p,.int .i64 0,.bool false,.slice none 0 0] 296)).heap[R]?=some (.cells #[.int .i64 p,.int .i64 0,.bool false,.slice none 0 0] 296 (0,0))):=(Below.heap_alloc _ _ _ (lBq (vG eB.out p 0 false _))).trans (vG eB.out p 0 false _);have mN:=hDq pu;clear pu;go_wp2;rw[mN.out];generalize (((((bK.setCell ⟨R,0,none⟩ (.int .i64 p)).setCell ⟨R,1,none⟩ (.int .i64 0)).setCell ⟨R,2,none⟩ (.bool false)).setCell ⟨R,3,none⟩ (.slice none 0 0)).alloc (.cells #[.int .i64 p,.int .i64 0,.bool false,.slice none 0 0] 296))=Wf at *;have z0:Wf.cell? ⟨R,0,none⟩=some (.int .i64 p):=by rw[cR Wf _ 0 _ _ _ ek.out];rfl
   have cK:Wf.cell? ⟨R,1,none⟩=some (.int .i64 0):=by rw[cR Wf _ 1 _ _ _ ek.out];rfl
   have z2:Wf.cell? ⟨R,2,none⟩=some (.bool false):=by rw[cR Wf _ 2 _ _ _ ek.out];rfl
   have z3:Wf.cell? ⟨R,3,none⟩=some (.slice none 0 0):=by rw[cR Wf _ 3 _ _ _ ek.out];rfl
   exact bodyPost_ret (v:=.tuple #[.agg #[.int .i64 p,.int .i64 0,.bool false,.slice none 0 0],.nilIface]) (by simp[results,Tryz.results191,go_sem,z0,cK,z2,z3]) rfl ⟨rfl,lm.out,ln.out⟩
  ·skip
   generalize pu:(aj.setCell ⟨I i,1,none⟩ (.int .i64 nr)).setCell ⟨I i,2,none⟩ (.int .i64 nl)=bK at *;have nM:Hid (aH bK ((((bK.setCell ⟨R,0,none⟩ (.int .i64 p)).setCell ⟨R,1,none⟩ (.int .i64 0)).setCell ⟨R,2,none⟩ (.bool true)).setCell ⟨R,3,none⟩ (.slice none 0 0)) R):=(((aH.setCell _ R 0 (.int .i64 p)).put 1 (.int .i64 0)).put 2 (.bool true)).put 3 (.slice none 0 0);have lm:=hDq ((eY.out.aside (aA eB.out eY.out.blk (by decide)) (aA eB.out eY.out.cy (by decide)) (fun j hj=>⟨aA eB.out (eY.out.it j hj) (by decide),aA eB.out (eY.out.aB j hj).cell (by decide),iM (eY.out.aB j hj).row eB.out (by decide)⟩) Bf.out nM.out).later ((bRq _ _).alloc (lRq _) (.cells #[.int .i64 p,.int .i64 0,.bool true,.slice none 0 0] 296)));have ln:Hid (bC W (((((bK.setCell ⟨R,0,none⟩ (.int .i64 p)).setCell ⟨R,1,none⟩ (.int .i64 0)).setCell ⟨R,2,none⟩ (.bool true)).setCell ⟨R,3,none⟩ (.slice none 0 0)).alloc (.cells #[.int .i64 p,.int .i64 0,.bool true,.slice none 0 0] 296)) P I b v v):=(qT.out.newer nM.out (by rw[iK.out];exact lRq _)).below ((bRq _ _).alloc (lRq _) _);have ek:Hid ((((((bK.setCell ⟨R,0,none⟩ (.int .i64 p)).setCell ⟨R,1,none⟩ (.int .i64 0)).setCell ⟨R,2,none⟩ (.bool true)).setCell ⟨R,3,none⟩ (.slice none 0 0)).alloc (.cells #[.int .i64 p,.int .i64 0,.bool true,.slice none 0 0] 296)).heap[R]?=some (.cells #[.int .i64 p,.int .i64 0,.bool true,.slice none 0 0] 296 (0,0))):=(Below.heap_alloc _ _ _ (lBq (vG eB.out p 0 true _))).trans (vG eB.out p 0 true _);have mN:=hDq pu;clear pu;go_wp2;rw[mN.out];generalize (((((bK.setCell ⟨R,0,none⟩ (.int .i64 p)).setCell ⟨R,1,none⟩ (.int .i64 0)).setCell ⟨R,2,none⟩ (.bool true)).setCell ⟨R,3,none⟩ (.slice none 0 0)).alloc (.cells #[.int .i64 p,.int .i64 0,.bool true,.slice none 0 0] 296))=Wf at *;have z0:Wf.cell? ⟨R,0,none⟩=some (.int .i64 p):=by rw[cR Wf _ 0 _ _ _ ek.out];rfl
   have cK:Wf.cell? ⟨R,1,none⟩=some (.int .i64 0):=by rw[cR Wf _ 1 _ _ _ ek.out];rfl
   have z2:Wf.cell? ⟨R,2,none⟩=some (.bool true):=by rw[cR Wf _ 2 _ _ _ ek.out];rfl
   have z3:Wf.cell? ⟨R,3,none⟩=some (.slice none 0 0):=by rw[cR Wf _ 3 _ _ _ ek.out];rfl
   exact bodyPost_ret (v:=.tuple #[.agg #[.int .i64 p,.int .i64 0,.bool true,.slice none 0 0],.nilIface]) (by simp[results,Tryz.results191,go_sem,z0,cK,z2,z3]) rfl ⟨rfl,lm.out,ln.out⟩
end
section
variable {w W:World} {F P:Nat} {I b:Nat->Nat} {v:Nat->Value} {L:Nat->List Cv.ag} {pf n:Nat->Int} {wd h:Int} {ev:Nat->Value}
theorem aee (i:Nat) (hi:i<3) (s p vol:Int) (hs:Hid (Ra.IsU s)) (hF:Hid (aU w W F P I b v L pf n wd h)) (he:Hid (dR w ev)) (hok:Hid (Fs.dO L pf)) (A4:Hid (aO.kz (n (i*2)) (n (i*2+1))=true)) (Lr:Hid (aO.iz wd h=true)) (jz:Hid (Cv.eN (L i) (n (i*2)) 1000 p vol)) (hno:aO.nx (n (i*2)) (n (i*2+1)) wd p vol=true) (aef:0<vol) :
  Calls Tryz.prog 191 #[.pointer (some ⟨F,0,none⟩),.int .i64 i,.int .u32 s] W fun e W'=>∃ h_ v',e=.returned (.tuple #[A5 p vol true h_,.nilIface])∧aU w W' F P I b v' (upd L i (Fs.gQ (Ra.fills s (L i) p vol) (L i))) (Fs.gN pf i p (L i) (Ra.fills s (L i) p vol)) (upd (upd n (i*2) (aO.nt (n (i*2)) (n (i*2+1)) wd p vol)) (i*2+1) (aO.nu (n (i*2)) (n (i*2+1)) wd h p vol)) wd h∧bC W W' P I b v v'∧eZ W' h_ (Ra.fills s (L i) p vol)∧Fs.dO (upd L i (Fs.gQ (Ra.fills s (L i) p vol) (L i))) (Fs.gN pf i p (L i) (Ra.fills s (L i) p vol)):=by
 have pq:=Fs.Ls (A6 (hok.out.aB i hi)) jz.out aef;have aeg:=hDq pq;obtain⟨aP,qZ⟩:∃ aP,Ra.fills s (L i) p vol=aP:=⟨_,rfl⟩;have Lt:=Fs.Tn pq s;rw[qZ]at Lt;have hlen:aP.length<=200:=by
  rw[<- qZ];unfold Ra.fills;have xA:=(hok.out.aB i hi).len;have h1:=Ra.A7 s (hok.out.aB i hi).oks 0 p vol pq.2.1.1 pq.2.1.2 pq.2.2.1;have h2:=Ra.A7 (Ra.q7 s) (hok.out.aB i hi).oks 1 p vol pq.2.1.1 pq.2.1.2 pq.2.2.1;rw[lAq];omega
 have hnil:aP≠[]:=fun e=>by
  have hsum:=Ra.Lu pq s 0 (.inl rfl);rw[qZ,e,Fs.FK,Fs.A8 (fun x _=>by show (if x.sd=0 then (0:Int) else 0)=0;split <;> rfl)]at hsum;omega
 have aeh:=hDq Lt;have HLen:=hDq hlen;have aei:=hDq hnil;have tr:=hDq qZ;have tu:=hDq pq.2.1;rw[qZ];clear Lt hlen hnil qZ pq;have hgw:=A6 (hok.out.aB i hi);have hr:ah.aC (n (i*2)) 1 1000=true:=by
  have:=A4.out
  simp only[aO.kz,Bool.and_eq_true]at this;exact this.1
 have A9:aO.mo p vol=true:=by
  rcases jz.out with ⟨e1,e2,_⟩ | ⟨e1,e2,e3,_⟩
  ·rw[e2];simp[aO.mo]
  ·simp[aO.mo,ah.aC,e2,e3];omega
 have A_:Hid (∀ W' u,gC W' u (L i)->gK W' 412 (ev 1) (ev 6) (ev 7)->Calls Tryz.prog 220 #[u,.int .i64 (n (i*2))] W' fun e w'=>e=.returned (.tuple #[.int .i64 p,.int .i64 vol,.nilIface])∧Below W'.heap.size W' w'):=fun W' u hu jh=>by
  refine(Q6 u (L i) (n (i*2)) 412 (ev 1) (ev 6) (ev 7) W' hu jh hgw hr).mono ?_;rintro e w' ⟨⟨p',aej,rfl,hw'⟩,hbl⟩;obtain⟨e1,e2⟩:=hw'.unique jz.out;rw[e1,e2];exact⟨rfl,hbl⟩
 have qg:=hDq (fun W' (jh:mq W' 412 (ev 1))=>QC (n (i*2)) (n (i*2+1)) wd h p vol 412 (ev 1) W' jh (by rw[A4.out,Lr.out,A9];rfl));unfold oG dx at qg;clear hgw hr A9;generalize Lv:aO.nt (n (i*2)) (n (i*2+1)) wd p vol=nr at *;generalize hnl:aO.nu (n (i*2)) (n (i*2+1)) wd h p vol=nl at *;rw[hno]at qg;clear Lv hnl hno;obtain⟨R,hR⟩:∃ R,W.heap.size=R:=⟨_,rfl⟩;obtain⟨w1,dS⟩:∃ w1,W.alloc (.cells #[.int .i64 0,.int .i64 0,.bool false,.slice none 0 0] 296)=w1:=⟨_,rfl⟩;have hb1:Below W.heap.size W w1:=by rw[<- dS];exact(bRq _ _).alloc (lRq _) _
 have HR1:Hid (w1.heap[R]?=some (.cells #[.int .i64 0,.int .i64 0,.bool false,.slice none 0 0] 296 (0,0))):=by show _=_;rw[<- dS,<- hR];exact hNq _ _
 have fe:=hDq (hF.out.later hb1);have fg:=hDq (bC.of_below hb1 P I b v);have Ba:=hDq (FL i hi fe.out);have nz:=hDq (xG (b i) w.heap.size (v i) (L i) w1 (fe.out.aB i hi) (hok.out.aB i hi).len);have cb:=fe.out.vy hi;have HW1:=hDq dS;have iK:=hDq hR;clear hb1 dS hR;go_enter Tryz.func191,Tryz.ntmps191
 go_wp2_with fail
 rw[HW1.out,iK.out];refine Ba.out.mono ?_;rintro e w1 ⟨rfl,rfl⟩;simp only[]
 go_wp2_with fail
 refine nz.out.mono ?_;rintro e w2 ⟨v2,rfl,hrow2,hb2⟩;have q8:Hid (gC w2 v2 (L i)):=Kl hrow2;have bT:=hDq (fe.out.later hb2);have HS2:=hDq (fg.out.below hb2);have aT:Hid (w2.heap[R]?=some (.cells #[.int .i64 0,.int .i64 0,.bool false,.slice none 0 0] 296 (0,0))):=by show _=_;rw[hb2.block _ (lBq HR1.out)];exact HR1.out
 clear hrow2 hb2 Ba nz cb fe fg HR1 HW1;have Lx:=bT.out.KD hi;have fT:=hDq (A_.out w2 v2 q8.out (bT.out.bP he.out).bP);obtain⟨sa,sm,sc,hv2⟩:=q8.out.form;subst hv2;simp only[]
 go_wp2_with fail
 refine fT.out.mono ?_;rintro e w3 ⟨rfl,hb3⟩;have fR:=hDq (bT.out.later hb3);have dy:=hDq (HS2.out.below hb3);have Bb:=hDq (q8.out.later hb3);have HR3:Hid (w3.heap[R]?=some (.cells #[.int .i64 0,.int .i64 0,.bool false,.slice none 0 0] 296 (0,0))):=by show _=_;rw[hb3.block _ (lBq aT.out)];exact aT.out
 clear hb3 bT HS2 q8 aT Lx A_ fT;simp only[]
 go_wp2_with fail
 obtain⟨bZ,val,hcl,aW⟩:=AQ F (I i) F (.cells (sZ I P wd h) 210 (0,0)) (.cells (s4 (b i) (n (i*2)) (n (i*2+1))) 267 (0,0)) (.cells (sZ I P wd h) 210 (0,0));obtain⟨x0,hx0⟩:=aW w3.drew ⟨fR.out.blk,fR.out.it i hi,fR.out.blk⟩;have hnx:Nonempty bZ:=⟨x0⟩;have en:∀ x,(val x).cell? ⟨I i,1,none⟩=some (.int .i64 (n (i*2))):=fun x=>by rw[cR _ _ _ _ _ _ (hcl x).2.1];rfl
 have em:∀ x,(val x).cell? ⟨I i,2,none⟩=some (.int .i64 (n (i*2+1))):=fun x=>by rw[cR _ _ _ _ _ _ (hcl x).2.1];rfl
 have LA:∀ x,(val x).cell? ⟨F,0,none⟩=some (.int .i64 wd):=fun x=>by rw[cR _ _ _ _ _ _ (hcl x).1];rfl
 have eh:∀ x,(val x).cell? ⟨F,1,none⟩=some (.int .i64 h):=fun x=>by rw[cR _ _ _ _ _ _ (hcl x).1];rfl
 have hbd:Below w3.heap.size w3 w3.drew:=⟨rfl,rfl,rfl,lRq _,fun _ _=>rfl⟩;have cG:=hDq (fR.out.later hbd);have cY:=hDq (dy.out.below hbd);have vC:=hDq (Bb.out.later hbd);have bF:Hid (w3.drew.heap[R]?=some (.cells #[.int .i64 0,.int .i64 0,.bool false,.slice none 0 0] 296 (0,0))):=HR3.out;obtain⟨w4,hw4⟩:∃ w4,w3.drew=w4:=⟨_,rfl⟩;rw[hw4]at cG cY vC bF;have aV:Hid (∀ W',Below w4.heap.size w4 W'->∃ x,val x=W'):=fun W' hb=>aW W' ⟨(cG.out.later hb).blk,(cG.out.later hb).it i hi,(cG.out.later hb).blk⟩;have vD:Hid (∀ W',Below w4.heap.size w4 W'->mq W' 412 (ev 1)):=fun W' hb=>((cG.out.later hb).bP he.out).KA;clear aW hcl fR dy Bb HR3 hbd;refine xU (val:=val) (fun D aj=>aj.heap[D]?=some (.cells #[.int .i64 nr,.int .i64 nl] 192 (0,0))∧w4.heap.size<=D∧Below w4.heap.size w4 aj) (.read 0 (.read 1 (.read 2 (.read 3 (.read 4 (.read 5 (.read 6 (.read 7 (.read 8 (.read 9 (.two 10 (.read 11 (.read 12 (.read 13 (.read 14 (.one 15 (.one 16 (.read 17 (.read 18 .done)))))))) 15 (.one 10 (.read 11 (.read 12 (.read 13 (.read 14 (.one 16 (.read 17 (.read 18 .done))))))))))))))))))) (by kernel_rfl) (by kernel_rfl) x0 hx0 ?_;apply Exists.intro;refine⟨?_,?_⟩
 case' refine_1 =>
  rw[hx0,hw4]
  iterate 10 (refine cF rfl (fun K hK=>?_);refine⟨by rfl,?_⟩;unfold aI;go_simp;refine hK _ ?_;clear hK K)
  have fI:Hid (Below w4.heap.size w4 w4):=bRq _ _;refine⟨?_,?_⟩
  case refine_1 =>
   refine b_ rfl (fun K hK=>?_);refine⟨by rfl,?_⟩;unfold aR;go_simp;refine(qg.out _ (vD.out _ fI.out)).mono ?_;rintro e wc ⟨rfl,hbc⟩;have gb:=hDq (fI.out.trans (hbc.mono fI.out.size));refine⟨_,rfl,aV.out _ gb.out,hK _ _ ?_⟩;clear hK K hbc
   iterate 4 (refine cF rfl (fun K hK=>?_);refine⟨by rfl,?_⟩;unfold aI;go_simp;refine hK _ ?_;clear hK K)
   refine b_ rfl (fun K hK=>?_);refine⟨by rfl,?_⟩;unfold aR;go_simp;obtain⟨D,hD⟩:∃ D,wc.heap.size=D:=⟨_,rfl⟩;obtain⟨ar,hwz⟩:∃ ar,wc.alloc (.cells #[.int .i64 0,.int .i64 0] 192)=ar:=⟨_,rfl⟩;rw[hD,hwz];have b9:Hid (Below w4.heap.size w4 ar):=by show Below _ _ _;rw[<- hwz];exact gb.out.alloc gb.out.size _
   have ay:Hid (ar.heap[D]?=some (.cells #[.int .i64 0,.int .i64 0] 192 (0,0))):=by show _=_;rw[<- hwz,<- hD];exact hNq _ _
   have eX:Hid (w4.heap.size<=D):=by have:=gb.out.size;show _<=_;omega
   refine⟨aV.out _ b9.out,hK _ _ ?_⟩;clear hK K hwz hD;have c0:ar.cell? ⟨D,0,none⟩=some (.int .i64 0):=by rw[cR ar _ 0 _ _ _ ay.out];rfl
   have c1:ar.cell? ⟨D,1,none⟩=some (.int .i64 0):=by rw[cR ar _ 1 _ _ _ ay.out];rfl
   have f0:ar.frozen? ⟨D,0,none⟩=false:=by simp[World.frozen?,ay.out]
   have f1:ar.frozen? ⟨D,1,none⟩=false:=by simp[World.frozen?,ay.out]
   have HX:Hid (((ar.setCell ⟨D,0,none⟩ (.int .i64 nr)).setCell ⟨D,1,none⟩ (.int .i64 nl)).heap[D]?=some (.cells #[.int .i64 nr,.int .i64 nl] 192 (0,0))):=by
    have h0:(ar.setCell ⟨D,0,none⟩ (.int .i64 nr)).heap[D]?=some (.cells #[.int .i64 nr,.int .i64 0] 192 (0,0)):=by
     rw[setCell_eq_setRow ar D 0 _ _ _ _ ay.out];exact setRow_heap ar D _ _ _ _ ay.out
    show _=_;rw[setCell_eq_setRow _ D 1 _ _ _ _ h0];exact setRow_heap _ D _ _ _ _ h0
   have aS:Hid (Below w4.heap.size w4 ((ar.setCell ⟨D,0,none⟩ (.int .i64 nr)).setCell ⟨D,1,none⟩ (.int .i64 nl))):=(b9.out.setCell (p:=⟨D,0,none⟩) eX.out _).setCell (p:=⟨D,1,none⟩) eX.out _;refine b_ rfl (fun K hK=>?_);refine⟨by rfl,?_⟩;unfold aR;go_simp;refine⟨aV.out _ aS.out,hK _ _ ?_⟩;clear hK K ay c0 c1 f0 f1;generalize (ar.setCell ⟨D,0,none⟩ (.int .i64 nr)).setCell ⟨D,1,none⟩ (.int .i64 nl)=aj at *
   iterate 2 (refine cF rfl (fun K hK=>?_);refine⟨by rfl,?_⟩;unfold aI;go_simp;refine hK _ ?_;clear hK K)
   refine kD ?_;exact⟨D,rfl,HX.out,eX.out,aS.out⟩
  case refine_2 =>
   refine b_ rfl (fun K hK=>?_);refine⟨by rfl,?_⟩;unfold aR;go_simp;obtain⟨D,hD⟩:∃ D,w4.heap.size=D:=⟨_,rfl⟩;obtain⟨iL,hwz⟩:∃ ar,w4.alloc (.cells #[.int .i64 0,.int .i64 0] 192)=ar:=⟨_,rfl⟩;rw[hD,hwz];have dU:Hid (Below w4.heap.size w4 iL):=by show Below _ _ _;rw[<- hwz];exact fI.out.alloc fI.out.size _
   have oW:Hid (iL.heap[D]?=some (.cells #[.int .i64 0,.int .i64 0] 192 (0,0))):=by show _=_;rw[<- hwz,<- hD];exact hNq _ _
   have eX:Hid (w4.heap.size<=D):=by have:=fI.out.size;show _<=_;omega
   refine⟨aV.out _ dU.out,hK _ _ ?_⟩;clear hK K hwz hD;refine b_ rfl (fun K hK=>?_);refine⟨by rfl,?_⟩;unfold aR;go_simp;refine(qg.out _ (vD.out _ dU.out)).mono ?_;rintro e ar ⟨rfl,hbc⟩;have b9:=hDq (dU.out.trans (hbc.mono dU.out.size));have ay:Hid (ar.heap[D]?=some (.cells #[.int .i64 0,.int .i64 0] 192 (0,0))):=by show _=_;rw[hbc.block _ (lBq oW.out)];exact oW.out
   refine⟨_,rfl,aV.out _ b9.out,hK _ _ ?_⟩;clear hK K hbc
   iterate 4 (refine cF rfl (fun K hK=>?_);refine⟨by rfl,?_⟩;unfold aI;go_simp;refine hK _ ?_;clear hK K)
   have c0:ar.cell? ⟨D,0,none⟩=some (.int .i64 0):=by rw[cR ar _ 0 _ _ _ ay.out];rfl
   have c1:ar.cell? ⟨D,1,none⟩=some (.int .i64 0):=by rw[cR ar _ 1 _ _ _ ay.out];rfl
   have f0:ar.frozen? ⟨D,0,none⟩=false:=by simp[World.frozen?,ay.out]
   have f1:ar.frozen? ⟨D,1,none⟩=false:=by simp[World.frozen?,ay.out]
   have HX:Hid (((ar.setCell ⟨D,0,none⟩ (.int .i64 nr)).setCell ⟨D,1,none⟩ (.int .i64 nl)).heap[D]?=some (.cells #[.int .i64 nr,.int .i64 nl] 192 (0,0))):=by
    have h0:(ar.setCell ⟨D,0,none⟩ (.int .i64 nr)).heap[D]?=some (.cells #[.int .i64 nr,.int .i64 0] 192 (0,0)):=by
     rw[setCell_eq_setRow ar D 0 _ _ _ _ ay.out];exact setRow_heap ar D _ _ _ _ ay.out
    show _=_;rw[setCell_eq_setRow _ D 1 _ _ _ _ h0];exact setRow_heap _ D _ _ _ _ h0
   have aS:Hid (Below w4.heap.size w4 ((ar.setCell ⟨D,0,none⟩ (.int .i64 nr)).setCell ⟨D,1,none⟩ (.int .i64 nl))):=(b9.out.setCell (p:=⟨D,0,none⟩) eX.out _).setCell (p:=⟨D,1,none⟩) eX.out _;refine b_ rfl (fun K hK=>?_);refine⟨by rfl,?_⟩;unfold aR;go_simp;refine⟨aV.out _ aS.out,hK _ _ ?_⟩;clear hK K ay c0 c1 f0 f1;generalize (ar.setCell ⟨D,0,none⟩ (.int .i64 nr)).setCell ⟨D,1,none⟩ (.int .i64 nl)=aj at *
   iterate 2 (refine cF rfl (fun K hK=>?_);refine⟨by rfl,?_⟩;unfold aI;go_simp;refine hK _ ?_;clear hK K)
   refine kD ?_;exact⟨D,rfl,HX.out,eX.out,aS.out⟩
 intro D aj ⟨oX,oY,hb6⟩;have HX:=hDq oX;have HDn:=hDq oY;have eA:=hDq (cG.out.later hb6);have d_:=hDq (cY.out.below hb6);have LB:=hDq (vC.out.later hb6);have bu:Hid (aj.heap[R]?=some (.cells #[.int .i64 0,.int .i64 0,.bool false,.slice none 0 0] 296 (0,0))):=by show _=_;rw[hb6.block _ (lBq bF.out)];exact bF.out
 clear oX oY hb6 cG cY vC bF qg hw4;clear hx0 en em LA eh aV vD;clear x0 hnx;clear val;clear bZ;obtain⟨E,hE⟩:∃ E,aj.heap.size=E:=⟨_,rfl⟩;obtain⟨bh,oO⟩:∃ bh,aj.alloc (.cells #[.int .i64 p,.int .i64 vol,.bool true,.slice none 0 0] 296)=bh:=⟨_,rfl⟩;have jc:Below aj.heap.size aj bh:=by rw[<- oO];exact(bRq _ _).alloc (lRq _) _
 have LC:Hid (bh.heap[E]?=some (.cells #[.int .i64 p,.int .i64 vol,.bool true,.slice none 0 0] 296 (0,0))):=by show _=_;rw[<- oO,<- hE];exact hNq _ _
 have j5:=hDq (eA.out.later jc);have lf:=hDq (d_.out.below jc);have Tp:=hDq (LB.out.later jc);have fG:Hid (bh.heap[R]?=some (.cells #[.int .i64 0,.int .i64 0,.bool false,.slice none 0 0] 296 (0,0))):=by show _=_;rw[jc.block _ (lBq bu.out)];exact bu.out
 have lQ:Hid (bh.heap[D]?=some (.cells #[.int .i64 nr,.int .i64 nl] 192 (0,0))):=by show _=_;rw[jc.block _ (lBq HX.out)];exact HX.out
 have vE:Hid (R≠E):=fun e=>by have:=lBq bu.out;omega
 have yh:Hid (W.heap.size<=E):=by have:=d_.out.size;show _<=_;omega
 have iO:=hDq (aek (.slice sa sm sc) (L i) p vol s 412 (ev 1) (ev 2) (ev 6) (ev 7) bh Tp.out (j5.out.bP he.out).bP (j5.out.bP he.out).c2 aeg.out hs.out);rw[tr.out]at iO;have Tq:=hDq oO;have ael:=hDq hE;clear jc oO hE eA d_ LB bu HX Tp
 go_wp2_with fail
 rw[Tq.out,ael.out];refine iO.out.mono ?_;rintro e bY ⟨h_,rfl,Bc,qh⟩;have lS:=hDq (j5.out.later qh);have yi:=hDq (lf.out.below qh);have xQ:Hid (bY.heap[R]?=some (.cells #[.int .i64 0,.int .i64 0,.bool false,.slice none 0 0] 296 (0,0))):=by show _=_;rw[qh.block _ (lBq fG.out)];exact fG.out
 have yj:Hid (bY.heap[D]?=some (.cells #[.int .i64 nr,.int .i64 nl] 192 (0,0))):=by show _=_;rw[qh.block _ (lBq lQ.out)];exact lQ.out
 have nL:Hid (bY.heap[E]?=some (.cells #[.int .i64 p,.int .i64 vol,.bool true,.slice none 0 0] 296 (0,0))):=by show _=_;rw[qh.block _ (lBq LC.out)];exact LC.out
 have LD:=hDq Bc;clear Bc qh j5 lf fG lQ LC iO Tq;obtain⟨iP,ji,iy⟩:=LD.out.val;obtain⟨lj,LF⟩:∃ lj,aP.length=lj:=⟨_,rfl⟩;rw[LF]at iy;subst iy;clear LF;have e3:bY.cell? ⟨E,3,none⟩=some (.slice none 0 0):=by rw[cR bY _ 3 _ _ _ nL.out];rfl
 have g3:bY.frozen? ⟨E,3,none⟩=false:=by simp[World.frozen?,nL.out]
 obtain⟨g_,yl⟩:∃ g_,bY.setCell ⟨E,3,none⟩ (.slice iP lj ji)=g_:=⟨_,rfl⟩;have j4:aH bY g_ E:=by rw[<- yl];exact aH.setCell _ _ _ _
 have LG:Hid (g_.heap[E]?=some (.cells #[.int .i64 p,.int .i64 vol,.bool true,.slice iP lj ji] 296 (0,0))):=by show _=_;rw[<- yl,setCell_eq_setRow _ E 3 _ _ _ _ nL.out];exact setRow_heap _ E _ _ _ _ nL.out
 have q9:=hDq (lS.out.aside (aA nL.out lS.out.blk (by decide)) (aA nL.out lS.out.cy (by decide)) (fun j hj=>⟨aA nL.out (lS.out.it j hj) (by decide),aA nL.out (lS.out.aB j hj).cell (by decide),iM (lS.out.aB j hj).row nL.out (by decide)⟩) (lTq hF.out.dv.size yh.out) j4);have Bd:=hDq (yi.out.newer j4 yh.out);have ym:Hid (g_.heap[R]?=some (.cells #[.int .i64 0,.int .i64 0,.bool false,.slice none 0 0] 296 (0,0))):=by show _=_;rw[j4.block _ (lBq xQ.out) vE.out];exact xQ.out
 have Tt:Hid (g_.heap[D]?=some (.cells #[.int .i64 nr,.int .i64 nl] 192 (0,0))):=by show _=_;rw[j4.block _ (lBq yj.out) (aA yj.out nL.out (by decide))];exact yj.out
 have Tv:=hDq (LD.out.save j4 nL.out (by decide));have FM:g_.cell? ⟨E,3,none⟩=some (.slice iP lj ji):=by rw[cR g_ _ 3 _ _ _ LG.out];rfl
 have Tw:=hDq yl;have HST:=hDq (aem i hi p (.slice iP lj ji) aP q9.out he hok aeh.out tu.out.1 tu.out.2 Tv.out HLen.out aei.out);have Tx:=hDq FM;clear j4 yl lS yi xQ yj nL LD FM;simp only[]
 go_wp2_with fail
 rw[Tw.out];have FM:=Tx.out
 go_wp2_with fail
 refine HST.out.mono ?_;rintro e wt ⟨rfl,v10,Tz,LH,Az,TA⟩;have FN:∀ {q:Nat} {a:Array Value} {T:TypeId},g_.heap[q]?=some (.cells a T (0,0))->T≠197->T≠213->T≠267->T≠276->wt.heap[q]?=some (.cells a T (0,0)):=fun {q a T} hq h1 h2 h3 h4=>by
  rw[LH.keep q (lBq hq) (aA hq q9.out.cy h2) (fun j hj=>⟨aA hq (q9.out.it j hj) h3,aA hq (q9.out.aB j hj).cell h4,iM (q9.out.aB j hj).row hq h1⟩)];exact hq
 have yn:Hid (wt.heap[E]?=some (.cells #[.int .i64 p,.int .i64 vol,.bool true,.slice iP lj ji] 296 (0,0))):=FN LG.out (by decide) (by decide) (by decide) (by decide);have lT:Hid (wt.heap[R]?=some (.cells #[.int .i64 0,.int .i64 0,.bool false,.slice none 0 0] 296 (0,0))):=FN ym.out (by decide) (by decide) (by decide) (by decide);have yo:Hid (wt.heap[D]?=some (.cells #[.int .i64 nr,.int .i64 nl] 192 (0,0))):=FN Tt.out (by decide) (by decide) (by decide) (by decide);have LI:=hDq Tz;have TB:=hDq (Bd.out.trans LH);have TC:=hDq Az;have aen:=hDq TA;clear FN Tz LH Az TA LG ym Tt q9 Bd Tv HST Tw Tx
 try clear e3 g3
 try clear FM
 have fC:=hDq (LI.out.it i hi);have d0:wt.cell? ⟨D,0,none⟩=some (.int .i64 nr):=by rw[cR wt _ 0 _ _ _ yo.out];rfl
 have d1:wt.cell? ⟨D,1,none⟩=some (.int .i64 nl):=by rw[cR wt _ 1 _ _ _ yo.out];rfl
 have i1:wt.cell? ⟨I i,1,none⟩=some (.int .i64 (n (i*2))):=by rw[cR wt _ 1 _ _ _ fC.out];rfl
 have i2:wt.cell? ⟨I i,2,none⟩=some (.int .i64 (n (i*2+1))):=by rw[cR wt _ 2 _ _ _ fC.out];rfl
 have j1:wt.frozen? ⟨I i,1,none⟩=false:=by simp[World.frozen?,fC.out]
 have j2:wt.frozen? ⟨I i,2,none⟩=false:=by simp[World.frozen?,fC.out]
 have r0:wt.cell? ⟨R,0,none⟩=some (.int .i64 0):=by rw[cR wt _ 0 _ _ _ lT.out];rfl
 have r1:wt.cell? ⟨R,1,none⟩=some (.int .i64 0):=by rw[cR wt _ 1 _ _ _ lT.out];rfl
 have r2:wt.cell? ⟨R,2,none⟩=some (.bool false):=by rw[cR wt _ 2 _ _ _ lT.out];rfl
 have r3:wt.cell? ⟨R,3,none⟩=some (.slice none 0 0):=by rw[cR wt _ 3 _ _ _ lT.out];rfl
 have q0:wt.frozen? ⟨R,0,none⟩=false:=by simp[World.frozen?,lT.out]
 have q1:wt.frozen? ⟨R,1,none⟩=false:=by simp[World.frozen?,lT.out]
 have q2:wt.frozen? ⟨R,2,none⟩=false:=by simp[World.frozen?,lT.out]
 have q3:wt.frozen? ⟨R,3,none⟩=false:=by simp[World.frozen?,lT.out]
 have vF:R<wt.heap.size:=lBq lT.out;have aeo:I i<wt.heap.size:=lBq fC.out;have hDl:D<wt.heap.size:=lBq yo.out;have aep:¬ R=wt.heap.size:=by omega
 have aeq:¬ I i=wt.heap.size:=by omega
 have hDn:¬ D=wt.heap.size:=by omega
 have Be:R≠I i:=aA lT.out fC.out (by decide);have aer:I i≠R:=Ne.symm Be;have aes:D≠I i:=aA yo.out fC.out (by decide);have aet:D≠R:=aA yo.out lT.out (by decide);have e0:wt.cell? ⟨E,0,none⟩=some (.int .i64 p):=by rw[cR wt _ 0 _ _ _ yn.out];rfl
 have e1:wt.cell? ⟨E,1,none⟩=some (.int .i64 vol):=by rw[cR wt _ 1 _ _ _ yn.out];rfl
 have e2:wt.cell? ⟨E,2,none⟩=some (.bool true):=by rw[cR wt _ 2 _ _ _ yn.out];rfl
 have e3:wt.cell? ⟨E,3,none⟩=some (.slice iP lj ji):=by rw[cR wt _ 3 _ _ _ yn.out];rfl
 have anZ:E≠I i:=aA yn.out fC.out (by decide);have an0:E≠R:=Ne.symm vE.out;have yq:Hid (((wt.setCell ⟨I i,1,none⟩ (.int .i64 nr)).setCell ⟨I i,2,none⟩ (.int .i64 nl)).heap[I i]?=some (.cells (s4 (b i) nr nl) 267 (0,0))):=by
  have h0:(wt.setCell ⟨I i,1,none⟩ (.int .i64 nr)).heap[I i]?=some (.cells #[.pointer (some ⟨b i,0,none⟩),.int .i64 nr,.int .i64 (n (i*2+1))] 267 (0,0)):=by
   rw[setCell_eq_setRow wt (I i) 1 _ _ _ _ fC.out];exact setRow_heap wt (I i) _ _ _ _ fC.out
  show _=_;rw[setCell_eq_setRow _ (I i) 2 _ _ _ _ h0];exact setRow_heap _ (I i) _ _ _ _ h0
 have eY:=hDq (LI.out.qc hi yq.out ((aH.setCell _ _ _ _).put _ _));have qT:=hDq (TB.out.trans (bC.SL hi ((aH.setCell wt (I i) 1 (.int .i64 nr)).put 2 (.int .i64 nl)) P b v10));have eB:Hid (((wt.setCell ⟨I i,1,none⟩ (.int .i64 nr)).setCell ⟨I i,2,none⟩ (.int .i64 nl)).heap[R]?=some (.cells #[.int .i64 0,.int .i64 0,.bool false,.slice none 0 0] 296 (0,0))):=by
  show _=_;rw[((aH.setCell wt (I i) 1 (.int .i64 nr)).put 2 (.int .i64 nl)).block R vF Be];exact lT.out
 have aeu:=hDq (TC.out.save ((aH.setCell wt (I i) 1 (.int .i64 nr)).put 2 (.int .i64 nl)) fC.out (by decide));have Bf:Hid (w.heap.size<=R):=by have:=hF.out.dv.size;have:=iK.out;show _<=_;omega
 generalize pu:(wt.setCell ⟨I i,1,none⟩ (.int .i64 nr)).setCell ⟨I i,2,none⟩ (.int .i64 nl)=bK at *;have mN:=hDq pu;clear pu LI TB TC yn yo lT yq fC;have nM:Hid (aH bK ((((bK.setCell ⟨R,0,none⟩ (.int .i64 p)).setCell ⟨R,1,none⟩ (.int .i64 vol)).setCell ⟨R,2,none⟩ (.bool true)).setCell ⟨R,3,none⟩ (.slice iP lj ji)) R):=(((aH.setCell _ R 0 (.int .i64 p)).put 1 (.int .i64 vol)).put 2 (.bool true)).put 3 (.slice iP lj ji);have lm:=hDq (eY.out.aside (aA eB.out eY.out.blk (by decide)) (aA eB.out eY.out.cy (by decide)) (fun j hj=>⟨aA eB.out (eY.out.it j hj) (by decide),aA eB.out (eY.out.aB j hj).cell (by decide),iM (eY.out.aB j hj).row eB.out (by decide)⟩) Bf.out nM.out);have ln:=hDq (qT.out.newer nM.out (by rw[iK.out];exact lRq _));have aev:=hDq (aeu.out.save nM.out eB.out (by decide));have ek:Hid (((((bK.setCell ⟨R,0,none⟩ (.int .i64 p)).setCell ⟨R,1,none⟩ (.int .i64 vol)).setCell ⟨R,2,none⟩ (.bool true)).setCell ⟨R,3,none⟩ (.slice iP lj ji)).heap[R]?=some (.cells #[.int .i64 p,.int .i64 vol,.bool true,.slice iP lj ji] 296 (0,0))):=vG eB.out p vol true _;simp only[];go_wp2;rw[mN.out];generalize ((((bK.setCell ⟨R,0,none⟩ (.int .i64 p)).setCell ⟨R,1,none⟩ (.int .i64 vol)).setCell ⟨R,2,none⟩ (.bool true)).setCell ⟨R,3,none⟩ (.slice iP lj ji))=Wf at *;have z0:Wf.cell? ⟨R,0,none⟩=some (.int .i64 p):=by rw[cR Wf _ 0 _ _ _ ek.out];rfl
 have cK:Wf.cell? ⟨R,1,none⟩=some (.int .i64 vol):=by rw[cR Wf _ 1 _ _ _ ek.out];rfl
 have z2:Wf.cell? ⟨R,2,none⟩=some (.bool true):=by rw[cR Wf _ 2 _ _ _ ek.out];rfl
 have z3:Wf.cell? ⟨R,3,none⟩=some (.slice iP lj ji):=by rw[cR Wf _ 3 _ _ _ ek.out];rfl
 exact bodyPost_ret (v:=.tuple #[.agg #[.int .i64 p,.int .i64 vol,.bool true,.slice iP lj ji],.nilIface]) (by simp[results,Tryz.results191,go_sem,z0,cK,z2,z3]) rfl ⟨_,_,rfl,lm.out,ln.out,aev.out,aen.out⟩
end
structure d6 (L:Nat->List Cv.ag) (pf n:Nat->Int) (wd h:Int):Prop where
 ok:Fs.dO L pf
 qc:∀ i,i<3->aO.kz (n (i*2)) (n (i*2+1))=true
 rule:aO.iz wd h=true
namespace Fl
def nP (L:Nat->List Cv.ag) (i:Nat) (aP:List (Int×Int)):Nat->List Cv.ag:=upd L i (Fs.gQ aP (L i))
def runN (n:Nat->Int) (i:Nat) (wd h p vol:Int):Nat->Int:=upd (upd n (i*2) (aO.nt (n (i*2)) (n (i*2+1)) wd p vol)) (i*2+1) (aO.nu (n (i*2)) (n (i*2+1)) wd h p vol)
def nQ (n:Nat->Int) (i:Nat) (wd p vol:Int):Bool:=aO.nx (n (i*2)) (n (i*2+1)) wd p vol
end Fl
theorem aeF {r l wd h p v:Int} (hb:aO.kz r l=true) (hr:aO.iz wd h=true) (hp:0<v->1<=p∧p<=1000):aO.kz (aO.nt r l wd p v) (aO.nu r l wd h p v)=true:=by
 simp only[aO.kz,aO.iz,ah.aC,Bool.and_eq_true,decide_eq_true_eq]at *;unfold aO.nt aO.nu;by_cases h1:0<l
 ·rw[if_pos h1,if_pos h1]
  split
  ·have:=hp (by omega);omega
  ·omega
 ·rw[if_neg h1,if_neg h1]
  by_cases h2:0<v
  ·have:=hp h2
   cases aO.uV wd r p <;> simp[h2] <;> omega
  ·simp[h2];omega
theorem d6.run {L:Nat->List Cv.ag} {pf n:Nat->Int} {wd h:Int} (H:d6 L pf n wd h) {i:Nat} (hi:i<3) {p vol:Int} (hw:Cv.eN (L i) (n (i*2)) 1000 p vol) {L':Nat->List Cv.ag} {nR:Nat->Int} (ho:Fs.dO L' nR):d6 L' nR (Fl.runN n i wd h p vol) wd h:=by
 refine⟨ho,fun j hj=>?_,H.rule⟩;unfold Fl.runN;by_cases e:j=i
 ·subst e
  rw[upd_same,upd_ne _ _ (by omega),upd_same];refine aeF (H.qc j hj) H.rule (fun hv=>?_);rcases hw with ⟨_,e2,_⟩ | ⟨_,e2,e3,_⟩
  ·omega
  ·exact⟨e2,e3⟩
 ·rw[upd_ne _ _ (by omega),upd_ne _ _ (by omega),upd_ne _ _ (by omega),upd_ne _ _ (by omega)]
  exact H.qc j hj
section
variable {w W:World} {F P:Nat} {I b:Nat->Nat} {v:Nat->Value} {L:Nat->List Cv.ag} {pf n:Nat->Int} {wd h:Int} {ev:Nat->Value}
theorem aeG (i:Nat) (hi:i<3) (s p vol:Int) (hs:Ra.IsU s) (hF:aU w W F P I b v L pf n wd h) (he:dR w ev) (H:d6 L pf n wd h) (jz:Cv.eN (L i) (n (i*2)) 1000 p vol) :
  Calls Tryz.prog 191 #[.pointer (some ⟨F,0,none⟩),.int .i64 i,.int .u32 s] W fun e W'=>∃ h_ v',e=.returned (.tuple #[A5 p vol (Fl.nQ n i wd p vol) h_,.nilIface]) ∧
   aU w W' F P I b v' (Fl.nP L i (Fl.nS s (L i) (Fl.nQ n i wd p vol) p vol)) (Fs.gN pf i p (L i) (Fl.nS s (L i) (Fl.nQ n i wd p vol) p vol)) (Fl.runN n i wd h p vol) wd h∧bC W W' P I b v v' ∧
   eZ W' h_ (Fl.nS s (L i) (Fl.nQ n i wd p vol) p vol)∧d6 (Fl.nP L i (Fl.nS s (L i) (Fl.nQ n i wd p vol) p vol)) (Fs.gN pf i p (L i) (Fl.nS s (L i) (Fl.nQ n i wd p vol) p vol)) (Fl.runN n i wd h p vol) wd h:=by
 have hv0:=(jz.range (by decide)).2.2;by_cases hc:Fl.nQ n i wd p vol=true∧0<vol
 ·have e:Fl.nS s (L i) (Fl.nQ n i wd p vol) p vol=Ra.fills s (L i) p vol:=by unfold Fl.nS;rw[if_pos hc]
  rw[e,hc.1];refine(aee i hi s p vol hs hF he H.ok (H.qc i hi) H.rule jz hc.1 hc.2).mono ?_;rintro e W' ⟨h_,v',rfl,h1,h2,h3,h4⟩;exact⟨h_,v',rfl,h1,h2,h3,H.run hi jz h4⟩
 ·have e:Fl.nS s (L i) (Fl.nQ n i wd p vol) p vol=[]:=by unfold Fl.nS;rw[if_neg hc]
  have hst:aO.nx (n (i*2)) (n (i*2+1)) wd p vol=false∨vol=0:=by
   cases ho:aO.nx (n (i*2)) (n (i*2+1)) wd p vol with
   | false=>exact .inl rfl
   | true=>exact .inr (by have:¬ 0<vol:=fun hv=>hc ⟨ho,hv⟩;omega)
  have e2:Fl.nP L i []=L:=by unfold Fl.nP;rw[Fs.FY (H.ok.aB i hi).oks,qO]
  rw[e,e2,Fs.TM];refine(aeH i hi s p vol hF he H.ok (H.qc i hi) H.rule jz hst).mono ?_;rintro e W' ⟨rfl,h1,h2⟩;exact⟨_,v,rfl,h1,h2,.inl ⟨rfl,none,0,rfl⟩,H.run hi jz H.ok⟩
end
theorem adK (a b c:Option Addr) (w:World):(Instr.index 208 (.agg #[.pointer a,.pointer b,.pointer c]) (.int .i64 0)).run Tryz.prog w=.ok (.pointer a) w:=by kernel_rfl
theorem adL (a b c:Option Addr) (w:World):(Instr.index 208 (.agg #[.pointer a,.pointer b,.pointer c]) (.int .i64 1)).run Tryz.prog w=.ok (.pointer b) w:=by kernel_rfl
theorem adM (a b c:Option Addr) (w:World):(Instr.index 208 (.agg #[.pointer a,.pointer b,.pointer c]) (.int .i64 2)).run Tryz.prog w=.ok (.pointer c) w:=by kernel_rfl
theorem adN (I:Nat->Nat) {i:Nat} (hi:i<3) (w:World):(Instr.index 208 (.agg #[.pointer (some ⟨I 0,0,none⟩),.pointer (some ⟨I 1,0,none⟩),.pointer (some ⟨I 2,0,none⟩)]) (.int .i64 i)).run Tryz.prog w=.ok (.pointer (some ⟨I i,0,none⟩)) w:=by
 match i,hi with
 | 0,_=>exact adK _ _ _ w
 | 1,_=>exact adL _ _ _ w
 | 2,_=>exact adM _ _ _ w
def adO (w W W':World) (e:Ending) (F P:Nat) (I b:Nat->Nat) (v:Nat->Value) (L:Nat->List Cv.ag) (pf n:Nat->Int) (wd h c:Int):Prop:=∃ u v',e=.returned u∧W'.ownsRow W.heap.size 197 5 u (Fl.mD c L 3).length (flat (Fl.mD c L 3))∧aU w W' F P I b v' (Fl.k5 c L 3) (Fl.p_ c L pf 3) n wd h∧bC W W' P I b v v'∧Fs.dO (Fl.k5 c L 3) (Fl.p_ c L pf 3)
structure Gone (W0 W:World) (b:Nat->Nat) (v:Nat->Value) (u:Value) (out:List Cv.ag):Prop where
 row:W.ownsRow W0.heap.size 197 5 u out.length (flat out)
 ap:∀ j,j<3->∀ k,u.ownBlock=some k->(v j).ownBlock≠some k
section
variable {w W0 W W':World} {F P:Nat} {I b:Nat->Nat} {v v':Nat->Value} {L:Nat->List Cv.ag} {pf n:Nat->Int} {wd h:Int} {ev:Nat->Value} {u:Value} {out:List Cv.ag}
theorem Gone.later (H:Gone W0 W b v u out) (hb:Below W.heap.size W W'):Gone W0 W' b v u out:=⟨bR H.row hb,H.ap⟩
theorem Gone.act (H:Gone W0 W b v u out) (hF:aU w W F P I b v L pf n wd h) (hs:bC W W' P I b v v'):Gone W0 W' b v' u out:=by
 have hlt:=H.row.lt;refine⟨⟨H.row.1,?_⟩,fun j hj k hk e=>?_⟩
 ·rcases H.row.2 with hn | ⟨g,cap,cur,e,hg,dF,rest⟩
  ·exact .inl hn
  ·have hu:u.ownBlock=some g:=by rw[e];rfl
   refine .inr ⟨g,cap,cur,e,hg,?_,rest⟩;rw[hs.keep g (lBq dF) (aA dF hF.cy (by decide)) (fun j hj=>⟨aA dF (hF.it j hj) (by decide),aA dF (hF.aB j hj).cell (by decide),H.ap j hj g hu⟩)];exact dF
 ·rcases hs.new j hj k e with h1 | h1
  ·exact H.ap j hj k hk h1
  ·have:=(hlt k hk).2;omega
theorem aU.grow (hF:aU w W F P I b v L pf n wd h) (H:Gone W0 W b v u out) (hW0:w.heap.size<=W0.heap.size) (hg:W.grownBy W' u.ownBlock):aU w W' F P I b v L pf n wd h:=by
 have hlt:=H.row.lt;have ho:Only W W' none u.ownBlock:=Only.jV hg none;have hk:∀ {q:Nat} {a:Array Value} {T:TypeId},W.heap[q]?=some (.cells a T (0,0))->T≠197->W'.heap[q]?=some (.cells a T (0,0)):=fun {q a T} hq hT=>by
  rw[ho.block q (lBq hq) (by simp) (fun e=>iM H.row hq hT e.symm)];exact hq
 refine⟨hk hF.blk (by decide),fun i hi=>hk (hF.it i hi) (by decide),fun i hi=>?_,hF.o5,hF.ne,hF.ap,hk hF.cy (by decide),hF.lo,hF.mG,hF.mH,hF.dv.trans (ho.below hF.dv.size (fun k e=>by cases e) (fun k e=>lTq hW0 (hlt k e).1))⟩;exact(hF.aB i hi).only ho (by simp) (fun e=>iM H.row (hF.aB i hi).cell (by decide) e.symm) (fun _ _=>by simp) (fun k hk e=>H.ap i hi k e.symm hk)
theorem bC.grown {W W1 W2:World} {P:Nat} {I b:Nat->Nat} {v v1:Nat->Value} (h:bC W W1 P I b v v1) {r:Option Nat} (hg:W1.grownBy W2 r) (hr:∀ g,r=some g->W.heap.size<=g):bC W W2 P I b v v1 :=
 ⟨hg.os.trans h.os,hg.tape.trans h.tape,hg.output.trans h.output,lTq h.size hg.size,fun k hk h1 h2=>by rw[hg.block k (Nat.lt_of_lt_of_le hk h.size) (fun e=>by have:=hr k e.symm;omega)];exact h.keep k hk h1 h2,h.new⟩
theorem adP (c:Int) (hF:Hid (aU w W F P I b v L pf n wd h)) (he:Hid (dR w ev)) (hok:Hid (Fs.dO L pf)) :
  Calls Tryz.prog 186 #[.pointer (some ⟨F,0,none⟩),.int .i64 c] W fun e W'=>adO w W W' e F P I b v L pf n wd h c:=by
 obtain⟨i0,z0,hi,hz0,hz1,hz2,hz3⟩:=DT;have Hi:=hDq hi;have eK:=hDq hz0;have eL:=hDq hz1;have eM:=hDq hz2;have nB:=hDq hz3;clear hi hz0 hz1 hz2 hz3;have p0:W.cell? ⟨F,2,none⟩=some (.pointer (some ⟨I 0,0,none⟩)):=hF.out.vw (i:=0) (by decide);have p1:W.cell? ⟨F,3,none⟩=some (.pointer (some ⟨I 1,0,none⟩)):=hF.out.vw (i:=1) (by decide);have p2:W.cell? ⟨F,4,none⟩=some (.pointer (some ⟨I 2,0,none⟩)):=hF.out.vw (i:=2) (by decide);have vx:=hDq (Fl.Ed c L (fun i hi=>(hok.out.aB i hi).len));have HW0:Hid (w.heap.size<=W.heap.size):=hF.out.dv.size;go_enter Tryz.func186,Tryz.ntmps186;go_wp2
 go_loopw [5,14] (fun u cc wr=>∃ (i:Nat) (lg:Nat->Value),i<=3∧cc=.int .i64 i∧aU w wr F P I b lg (Fl.k5 c L i) (Fl.p_ c L pf i) n wd h∧bC W wr P I b v lg∧Gone W wr b lg u (Fl.mD c L i)∧Fs.dO (Fl.k5 c L i) (Fl.p_ c L pf i)) (fun _ cc _=>3-(intOf cc).toNat)
 case atStart=>exact⟨0,v,by omega,rfl,hF.out,bC.refl _ _ _ _ _,⟨⟨rfl,.inl ⟨rfl,rfl⟩⟩,fun j hj k hk=>by cases hk⟩,hok.out⟩
 case round =>
  obtain⟨i,lg,hi,rfl,hf,hs,hg,ho⟩:=hrel;obtain⟨Kh,adQ⟩:∃ Kh,Kh=u5:=⟨_,rfl⟩;subst adQ;obtain⟨fQ,hwo⟩:∃ fQ,fQ=wr:=⟨_,rfl⟩;subst hwo;have fC:=hDq hf;have Ki:=hDq hs;have Eg:=hDq hg;have Kj:=hDq ho;clear hf hs hg ho p0 p1 p2;by_cases bO:i<3
  ·have aK:(i:Int)<3:=by omega
   have ix:=fun W=>adN I bO W;have Eh:=Fl.R8 c L i i (lRq _);have cb:=fC.out.vy bO;have Kk:=xG (b i) w.heap.size (lg i) (Fl.k5 c L i i) fQ (fC.out.aB i bO) (Kj.out.aB i bO).len;rw[Eh]at Kk;have nz:=hDq Kk;have Ei:=hDq (hok.out.aB i bO).once;have s5:=hDq (hok.out.aB i bO).len;have Sk:Hid (upd (Fl.k5 c L i) i (Fl.eV c (L i) 0)=Fl.k5 c L i):=by show _=_;rw[Fl.adv,<- Eh,qO]
   have anX:=hDq Eh;clear Kk Eh
   go_wp2_with fail
   refine nz.out.mono ?_;rintro e w2 ⟨vl,rfl,hrow,hb2⟩;have bT:=hDq (fC.out.later hb2);have HS2:=hDq (Ki.out.below hb2);have Sl:=hDq (Eg.out.later hb2);have Sm:=Kl hrow;have ay:Hid (fQ.heap.size<=w2.heap.size):=hb2.size;have h9:=hDq hrow;have adR:=hDq fC.out;have Sn:Hid (∀ g,Kh.ownBlock=some g->g<fQ.heap.size):=fun g hg=>(Eg.out.row.lt g hg).2;clear hrow hb2 nz cb Ki Eg;obtain⟨la,lc,hvl⟩:∃ la lc,vl=.slice la (L i).length lc:=by
    rcases Sm with ⟨e,a,c,rfl⟩ | ⟨g,o,c,rfl,_⟩
    ·exact⟨a,c,by rw[e];rfl⟩
    ·exact⟨_,_,rfl⟩
   subst hvl;obtain⟨m,hm⟩:∃ m,(L i).length=m:=⟨_,rfl⟩;rw[hm]at h9;rw[hm];have abB:m<=60:=by rw[<- hm];exact s5.out
   have HM:=hDq hm;clear Sm hm;have Sp:Hid (∀ g,(Value.slice la m lc).ownBlock=some g->g<w2.heap.size):=fun g hg=>(h9.out.lt g hg).2;simp only[]
   go_wp2_with fail
   go_loopw [5,24] (fun u cc wl=>∃ (k:Nat) (o6:Nat->Value) (fk:Nat->Int),k<=m∧cc=.int .i64 k∧fk=Fl.Ec i (Fl.p_ c L pf i) (Fl.jZ c (L i) k)∧aU w wl F P I b o6 (upd (Fl.k5 c L i) i (Fl.eV c (L i) k)) fk n wd h∧bC W wl P I b v o6∧(∀ j,j<3->∀ g,(o6 j).ownBlock=some g->(lg j).ownBlock=some g∨w2.heap.size<=g)∧Gone W wl b o6 u (Fl.mD c L i++Fl.jZ c (L i) k)∧Fs.dO (upd (Fl.k5 c L i) i (Fl.eV c (L i) k)) fk∧wl.ownsRow fQ.heap.size 197 5 (.slice la m lc) m (flat (L i))∧(∀ g,(Value.slice la m lc).ownBlock=some g->u.ownBlock≠some g)∧w2.heap.size<=wl.heap.size) (fun _ cc _=>m-(intOf cc).toNat)
   case atStart =>
    refine⟨0,lg,_,Nat.zero_le _,rfl,rfl,?_,HS2.out,fun j hj g hg=>.inl hg,?_,?_,h9.out,?_,lRq _⟩
    ·rw[Sk.out];exact bT.out
    ·rw[show Fl.jZ c (L i) 0=[] from rfl,aNq];exact Sl.out
    ·rw[Sk.out];exact Kj.out
    ·intro g hg e
     have h1:=(h9.out.lt g hg).1;have h2:=Sn.out g e;omega
   case round =>
    obtain⟨k,o6,fk,hk,rfl,xV,hf,hs,hs2,hg,ho,hrow,hap,hsz⟩:=hrel;obtain⟨Km,adS⟩:∃ Km,Km=u5:=⟨_,rfl⟩;subst adS;obtain⟨wl,lL⟩:∃ wl,wl=wr:=⟨_,rfl⟩;subst lL;have xW:=hDq xV;have nI:=hDq hf;have s6:=hDq hs;have Kn:=hDq hs2;have AV:=hDq hg;have vz:=hDq ho;have qb:=hDq hrow;have Ko:=hDq hap;have adT:=hDq hsz;clear xV hf hs hs2 hg ho hrow hap hsz bT HS2 Sl h9 Sn;by_cases hlt:k<m
    ·have hkm:(k:Int)<m:=by omega
     have hkl:k<(L i).length:=by rw[HM.out];exact hlt
     obtain⟨gl,hla⟩:∃ gl,la=some ⟨gl,0,none⟩:=by
      rcases qb.out.2 with ⟨e,_⟩ | ⟨g,cap,cur,e,_⟩
      ·simp at e;omega
      ·simp at e;exact⟨g,e.1⟩
     subst hla;obtain⟨c0,c1,c2,c3,c4⟩:=(xX qb.out) k hkl;rw[show 0+k*5=k*5 by omega]at c0 c1 c2 c3 c4;have Kp:=hDq (fun (hc:(Cv.nth (L i) k).ak=c)=>Fl.R6 Ei.out hkl hc);have Kq:=hDq (fun (hc:(Cv.nth (L i) k).ak≠c)=>Fl.keep_other hkl hc);have Sq:=hDq (fun (hc:(Cv.nth (L i) k).ak=c)=>Fl.drop_one bO vz.out Ei.out hkl hc);generalize Cv.nth (L i) k=X at *;obtain⟨x0,x1,x2,x3,x4⟩:=X;simp only[]at c0 c1 c2 c3 c4 Kp Kq Sq;obtain⟨cq,jf⟩:∃ cq,wl.alloc (.cells #[.int .i64 x0,.int .i64 x1,.int .i64 x2,.int .i64 x3,.int .i64 x4] 197)=cq:=⟨_,rfl⟩;obtain⟨DD,xY⟩:∃ DD,wl.heap.size=DD:=⟨_,rfl⟩;have hba:Below wl.heap.size wl cq:=by rw[<- jf];exact(bRq _ _).alloc (lRq _) _
     have Kr:Hid (cq.heap[DD]?=some (.cells #[.int .i64 x0,.int .i64 x1,.int .i64 x2,.int .i64 x3,.int .i64 x4] 197 (0,0))):=by show _=_;rw[<- jf,<- xY];exact hNq _ _
     have AX:=hDq (nI.out.later hba);have Kt:=hDq (s6.out.below hba);have Ej:=hDq (AV.out.later hba);have Ek:=hDq (bR qb.out hba);have Sr:=hDq (nI.out.fresh (q:=DD) (by omega));have anY:Hid (Km.ownBlock≠some DD):=fun e=>by have:=(AV.out.row.lt DD e).2;omega
     have kE:Hid (w2.heap.size<=cq.heap.size):=lTq adT.out hba.size;have AY:=hDq jf;have El:=hDq xY;clear hba jf xY nI s6 AV qb;by_cases hc:x1=c
     ·obtain⟨Sv,Sw,adU,adV⟩:=Kp.out hc
      have hlen:=(vz.out.aB i bO).len;rw[upd_same]at hlen;have Ku:=Sj i bO ⟨x0,x1,x2,x3,x4⟩ AX.out he.out vz.out.good (by show _<=_;rw[upd_same];exact hlen);rw[upd_same,vo,Sv]at Ku;have Em:=hDq Ku;unfold bJ at Em;simp only[]at Em;have xZ:=hDq Sw;clear Sv Sw adU adV hlen Ku Kp Kq;subst hc
      go_wp2_with fail
      rw[AY.out,El.out];refine Em.out.mono ?_;rintro e bK ⟨rfl,vb,ya,kY⟩;have qT:=hDq (Kt.out.trans kY);have adW:Hid (∀ j,j<3->∀ g,(vb j).ownBlock=some g->(lg j).ownBlock=some g∨w2.heap.size<=g):=fun j hj g hg=>by
       rcases kY.new j hj g hg with h5 | h5
       ·exact Kn.out j hj g h5
       ·exact .inr (lTq kE.out h5)
      have AZ:=hDq (Ej.out.act AX.out kY);have yb:Hid (bK.heap[DD]?=some (.cells #[.int .i64 x0,.int .i64 x1,.int .i64 x2,.int .i64 x3,.int .i64 x4] 197 (0,0))):=by show _=_;rw[kY.keep DD (lBq Kr.out) Sr.out.2.1 Sr.out.2.2];exact Kr.out
      have hrb:bK.ownsRow fQ.heap.size 197 5 (.slice (some ⟨gl,0,none⟩) m lc) m (flat (L i)):=by
       refine⟨Ek.out.1,?_⟩;rcases Ek.out.2 with hn | ⟨g,cap,cur,e,hg,dF,rest⟩
       ·exact .inl hn
       ·obtain⟨_,f2,f3⟩:=adR.out.fresh hg
        refine .inr ⟨g,cap,cur,e,hg,?_,rest⟩;rw[kY.keep g (lBq dF) f2 (fun j hj=>⟨(f3 j hj).1,(f3 j hj).2.1,fun e2=>?_⟩)]
        ·exact dF
        ·rcases Kn.out j hj g e2 with h5 | h5
         ·exact(f3 j hj).2.2 h5
         ·have:=Sp.out g (by rw[e];rfl);omega
      have Sy:Hid (cq.heap.size<=bK.heap.size):=kY.size;have eB:=hDq hrb;have eY:=hDq ya;clear ya kY hrb Em AX Kt Ej Kr Ek;have kF:bK.cell? ⟨DD,0,none⟩=some (.int .i64 x0):=by rw[cR bK _ 0 _ _ _ yb.out];rfl
      have k1:bK.cell? ⟨DD,1,none⟩=some (.int .i64 x1):=by rw[cR bK _ 1 _ _ _ yb.out];rfl
      have k2:bK.cell? ⟨DD,2,none⟩=some (.int .i64 x2):=by rw[cR bK _ 2 _ _ _ yb.out];rfl
      have k3:bK.cell? ⟨DD,3,none⟩=some (.int .i64 x3):=by rw[cR bK _ 3 _ _ _ yb.out];rfl
      have k4:bK.cell? ⟨DD,4,none⟩=some (.int .i64 x4):=by rw[cR bK _ 4 _ _ _ yb.out];rfl
      have Sz:Hid ((Fl.mD x1 L i++Fl.jZ x1 (L i) k).length<=400):=by
       have h1:=vx.out i (by omega);have h2:=List.length_filter_le (fun x:Cv.ag=>x.ak==x1) ((L i).take k);have h3:=List.length_take_le k (L i);have h4:=s5.out;show _<=_;unfold Fl.jZ;rw[lAq];omega
      generalize SA:Fl.mD x1 L i++Fl.jZ x1 (L i) k=Kv at *;have adX:=hDq SA;clear SA;simp only[]
      go_wp2_with (at_builtin;refine wpList_append_own_at _ rfl _ _ 195 rfl W.heap.size 197 i0 z0 5 40 Tryz.underlying195 Hi.out eK.out eL.out eM.out nB.out (by decide) _ _ _ rfl (AZ.out.row.alloc _) ⟨bK.heap.size,0,none⟩ 1 1 (dK ⟨x0,x1,x2,x3,x4⟩) rfl rfl ?c1 ?c2 ?c3 ?c4 ?c5 ?_)
      case c1=>exact fun j y hj=>xD bK ⟨x0,x1,x2,x3,x4⟩ 197 _ rfl j y hj
      case c2 => exact fun y hu => by
                      simp only[dK,List.mem_cons,List.not_mem_nil,or_false]at hu;rcases hu with rfl | rfl | rfl | rfl | rfl <;> rfl
      case c3=>have:=Sz.out;unfold maxLen;omega
      case c4=>have:=Sz.out;omega
      case c5=>have:=qT.out.size;simp;omega
      intro ve we hown' hgrow _ hloc;have hb0:Below bK.heap.size bK (bK.alloc (.cells #[.int .i64 x0,.int .i64 x1,.int .i64 x2,.int .i64 x3,.int .i64 x4] 197)):=(bRq _ _).alloc (lRq _) _;have s7:=(eY.out.later hb0).grow (AZ.out.later hb0) HW0.out hgrow;have yc:=(qT.out.below hb0).grown hgrow (fun g hg=>(AZ.out.row.lt g hg).1);have hgo:Gone W we b vb ve (Kv++[Cv.ag.mk x0 x1 x2 x3 x4]):=by
       refine⟨?_,fun j hj g hg e=>?_⟩
       ·rw[show flat (Kv++[Cv.ag.mk x0 x1 x2 x3 x4])=flat Kv++dK ⟨x0,x1,x2,x3,x4⟩ by simp[flat],lAq]
        exact hown'
       ·have Kw:=((eY.out.aB j hj).sO g e).2
        rcases hloc with h5 | h5
        ·rw[h5]at hg;exact AZ.out.ap j hj g hg e
        ·rw[h5]at hg
         simp at hg;omega
      have SB:we.ownsRow fQ.heap.size 197 5 (.slice (some ⟨gl,0,none⟩) m lc) m (flat (L i)):=by
       have ee:=bR eB.out hb0;refine⟨ee.1,?_⟩;rcases ee.2 with hn | ⟨g,cap,cur,e,hg,dF,rest⟩
       ·exact .inl hn
       ·exact .inr ⟨g,cap,cur,e,hg,by rw[hgrow.block g (lBq dF) (fun e2=>Ko.out g (by rw[e];rfl) e2.symm)];exact dF,rest⟩
      have SC:∀ g,(Value.slice (some ⟨gl,0,none⟩) m lc).ownBlock=some g->ve.ownBlock≠some g:=fun g hg e=>by
       rcases hloc with h5 | h5
       ·rw[h5]at e;exact Ko.out g hg e
       ·rw[h5]at e
        have h6:=Sp.out g hg;have h7:=kE.out;have h8:=Sy.out;simp at e;omega
      have SE:w2.heap.size<=we.heap.size:=by have:=kE.out;have:=Sy.out;have:=hb0.size;have:=hgrow.size;omega
      have adY:=hDq s7;have En:=hDq yc;have adZ:=hDq hgo;have iK:=hDq SB;have oV:=hDq SC;have ad1:=hDq SE;clear hb0 s7 yc hgo SB SC SE hown' hgrow hloc kF k1 k2 k3 k4 eY qT AZ eB yb;go_wp2;refine⟨⟨k+1,vb,_,by omega,by go_num,?_,adY.out,En.out,adW.out,?_,Sq.out (by simp),iK.out,oV.out,ad1.out⟩,by simp[intOf];omega⟩
      ·rw[xW.out,xZ.out]
       unfold Fl.Ec;rw[List.foldl_append];rfl
      ·rw[xZ.out,<- aAq,adX.out]
       exact adZ.out
     ·obtain⟨h1,h2⟩:=Kq.out hc
      have hcb:(x1==c)=false:=by simpa using hc
      rw[<- h1]at AX vz;rw[<- h2]at Ej xW;go_wp2;rw[AY.out];exact⟨⟨k+1,o6,fk,by omega,by go_num,xW.out,AX.out,Kt.out,Kn.out,Ej.out,vz.out,Ek.out,Ko.out,kE.out⟩,by simp[intOf];omega⟩
    ·have hkm:¬ (k:Int)<m:=by omega
     have e1:Fl.eV c (L i) k=(L i).filter (fun x=>!(x.ak==c)):=Fl.adw c (by rw[HM.out];omega);have e2:Fl.jZ c (L i) k=(L i).filter (fun x=>x.ak==c):=Fl.adx c (by rw[HM.out];omega);rw[e1]at nI vz;rw[e2]at xW AV;go_wp2;refine⟨⟨i+1,o6,by omega,by go_num,?_,s6.out,AV.out,?_⟩,by simp[intOf];omega⟩
     ·have:=nI.out;rw[xW.out]at this;exact this
     ·have:=vz.out;rw[xW.out]at this;exact this
  ·have aK:¬ (i:Int)<3:=by omega
   obtain rfl:i=3:=by omega
   go_wp2;go_ret;exact⟨_,_,rfl,Eg.out.row,fC.out,Ki.out,Kj.out⟩
end
theorem nH {W:World} {D:Nat} (hz:W.heap[D]?=some (.cells #[.int .i64 0,.int .i64 0,.int .i64 0,.int .i64 0,.int .i64 0] 197 (0,0))) (x0 x1 x2 x3 x4:Int) :
  (((((W.setCell ⟨D,0,none⟩ (.int .i64 x0)).setCell ⟨D,1,none⟩ (.int .i64 x1)).setCell ⟨D,2,none⟩ (.int .i64 x2)).setCell ⟨D,3,none⟩ (.int .i64 x3)).setCell ⟨D,4,none⟩ (.int .i64 x4)).heap[D]?=some (.cells #[.int .i64 x0,.int .i64 x1,.int .i64 x2,.int .i64 x3,.int .i64 x4] 197 (0,0)):=by
 have h0:(W.setCell ⟨D,0,none⟩ (.int .i64 x0)).heap[D]?=some (.cells #[.int .i64 x0,.int .i64 0,.int .i64 0,.int .i64 0,.int .i64 0] 197 (0,0)):=by
  rw[setCell_eq_setRow _ D 0 _ _ _ _ hz];exact setRow_heap _ D _ _ _ _ hz
 have h1:((W.setCell ⟨D,0,none⟩ (.int .i64 x0)).setCell ⟨D,1,none⟩ (.int .i64 x1)).heap[D]?=some (.cells #[.int .i64 x0,.int .i64 x1,.int .i64 0,.int .i64 0,.int .i64 0] 197 (0,0)):=by
  rw[setCell_eq_setRow _ D 1 _ _ _ _ h0];exact setRow_heap _ D _ _ _ _ h0
 have h2:(((W.setCell ⟨D,0,none⟩ (.int .i64 x0)).setCell ⟨D,1,none⟩ (.int .i64 x1)).setCell ⟨D,2,none⟩ (.int .i64 x2)).heap[D]?=some (.cells #[.int .i64 x0,.int .i64 x1,.int .i64 x2,.int .i64 0,.int .i64 0] 197 (0,0)):=by
  rw[setCell_eq_setRow _ D 2 _ _ _ _ h1];exact setRow_heap _ D _ _ _ _ h1
 have h3:((((W.setCell ⟨D,0,none⟩ (.int .i64 x0)).setCell ⟨D,1,none⟩ (.int .i64 x1)).setCell ⟨D,2,none⟩ (.int .i64 x2)).setCell ⟨D,3,none⟩ (.int .i64 x3)).heap[D]?=some (.cells #[.int .i64 x0,.int .i64 x1,.int .i64 x2,.int .i64 x3,.int .i64 0] 197 (0,0)):=by
  rw[setCell_eq_setRow _ D 3 _ _ _ _ h2];exact setRow_heap _ D _ _ _ _ h2
 rw[setCell_eq_setRow _ D 4 _ _ _ _ h3];exact setRow_heap _ D _ _ _ _ h3
theorem AJ {n:Nat} {w W:World} {D:Nat} (h:Below n w W) (hD:n<=D) (x0 x1 x2 x3 x4:Value):Below n w (((((W.setCell ⟨D,0,none⟩ x0).setCell ⟨D,1,none⟩ x1).setCell ⟨D,2,none⟩ x2).setCell ⟨D,3,none⟩ x3).setCell ⟨D,4,none⟩ x4) :=
 ((((h.setCell (p:=⟨D,0,none⟩) hD _).setCell (p:=⟨D,1,none⟩) hD _).setCell (p:=⟨D,2,none⟩) hD _).setCell (p:=⟨D,3,none⟩) hD _).setCell (p:=⟨D,4,none⟩) hD _
theorem vu (W:World) (D:Nat) (x0 x1 x2 x3 x4:Value):aH W (((((W.setCell ⟨D,0,none⟩ x0).setCell ⟨D,1,none⟩ x1).setCell ⟨D,2,none⟩ x2).setCell ⟨D,3,none⟩ x3).setCell ⟨D,4,none⟩ x4) D:=((((aH.setCell _ _ _ _).put _ _).put _ _).put _ _).put _ _
section
variable {w W:World} {F P:Nat} {I b:Nat->Nat} {v:Nat->Value} {L:Nat->List Cv.ag} {pf n:Nat->Int} {wd h:Int} {ev:Nat->Value}
theorem adE (a:Ask) (hF:Hid (aU w W F P I b v L pf n wd h)) (he:Hid (dR w ev)) (hk:Hid (Fl.fH a 99≠0)) :
  Calls Tryz.prog 217 #[.pointer (some ⟨F,0,none⟩),cr a] W fun e W'=>e=.returned (.tuple #[bJ (Fl.fy L a),cw ev (Fl.cW L pf a)])∧∃ v',aU w W' F P I b v' (Fl.dZ L a) (Fl.jE L pf a) n wd h∧bC W W' P I b v v':=by
 have hpos:=Fl.J7 hk.out;have hC:Fl.cW L pf a=Fl.mE a 99:=by unfold Fl.cW Fl.mE;rw[if_neg hk.out]
 have hne:Fl.cW L pf a≠0:=by rw[hC];unfold Fl.mE;omega
 have hX:Fl.fy L a=Cv.z:=by unfold Fl.fy;rw[if_neg (fun h=>hk.out h.1)]
 have hL:Fl.dZ L a=L:=by unfold Fl.dZ;rw[if_neg (fun h=>hk.out h.1)]
 have hP:Fl.jE L pf a=pf:=by unfold Fl.jE;rw[if_neg (fun h=>hk.out h.1)]
 rw[hX,hL,hP,hC];rw[hC]at hne;have HK:=hDq (fun W' (hb:Below W.heap.size W W')=>AL a 99 W' ((hF.out.bP he.out).below hb) (by decide));generalize Fl.mE a 99=AO at *;obtain⟨d,rfl⟩:∃ d,AO=d+1:=⟨AO-1,by omega⟩;rw[show cw ev (d+1)=.iface 412 (ev (d+1)) from rfl]at HK ⊢;clear hC hne hX hL hP;obtain⟨aY,ac,ck,gO,asd,bA,aq,aZ⟩:=a;unfold cr bw at HK ⊢;simp only[]at HK ⊢;have hb0:Below W.heap.size W ((W.alloc (.cells #[.int .u8 aY,.int .i64 ac,.int .i64 ck,.int .i64 gO,.int .i64 asd,.int .i64 bA,.int .i64 aq,.int .i64 aZ] 95)).alloc (.cells #[.int .i64 0,.int .i64 0,.int .i64 0,.int .i64 0,.int .i64 0] 197)):=((bRq _ _).alloc (lRq _) _).alloc (by simp) _;have hz0:((W.alloc (.cells #[.int .u8 aY,.int .i64 ac,.int .i64 ck,.int .i64 gO,.int .i64 asd,.int .i64 bA,.int .i64 aq,.int .i64 aZ] 95)).alloc (.cells #[.int .i64 0,.int .i64 0,.int .i64 0,.int .i64 0,.int .i64 0] 197)).heap[W.heap.size+1]?=some (.cells #[.int .i64 0,.int .i64 0,.int .i64 0,.int .i64 0,.int .i64 0] 197 (0,0)):=by have:=hNq (W.alloc (.cells #[.int .u8 aY,.int .i64 ac,.int .i64 ck,.int .i64 gO,.int .i64 asd,.int .i64 bA,.int .i64 aq,.int .i64 aZ] 95)) (.cells #[.int .i64 0,.int .i64 0,.int .i64 0,.int .i64 0,.int .i64 0] 197);simpa using this
 have bD:=hDq hb0;have qQ:=hDq hz0;clear hb0 hz0;go_enter Tryz.func217,Tryz.ntmps217
 go_wp2_with fail
 refine(HK.out _ bD.out).mono ?_;rintro e w2 ⟨rfl,hb2⟩;have HB2:=hDq (bD.out.trans (hb2.mono bD.out.size));have HZ2:Hid (w2.heap[W.heap.size+1]?=some (.cells #[.int .i64 0,.int .i64 0,.int .i64 0,.int .i64 0,.int .i64 0] 197 (0,0))):=by show _=_;rw[hb2.block _ (lBq qQ.out)];exact qQ.out
 clear hb2 HK bD qQ;generalize hR:W.heap.size+1=R at *;have r0:w2.cell? ⟨R,0,none⟩=some (.int .i64 0):=by rw[cR w2 _ 0 _ _ _ HZ2.out];rfl
 have r1:w2.cell? ⟨R,1,none⟩=some (.int .i64 0):=by rw[cR w2 _ 1 _ _ _ HZ2.out];rfl
 have r2:w2.cell? ⟨R,2,none⟩=some (.int .i64 0):=by rw[cR w2 _ 2 _ _ _ HZ2.out];rfl
 have r3:w2.cell? ⟨R,3,none⟩=some (.int .i64 0):=by rw[cR w2 _ 3 _ _ _ HZ2.out];rfl
 have r4:w2.cell? ⟨R,4,none⟩=some (.int .i64 0):=by rw[cR w2 _ 4 _ _ _ HZ2.out];rfl
 have q:∀ j,w2.frozen? ⟨R,j,none⟩=false:=fun j=>by simp[World.frozen?,HZ2.out]
 have q0:=q 0;have q1:=q 1;have q2:=q 2;have q3:=q 3;have q4:=q 4;clear q;have adF:Hid (W.heap.size<=R):=by show _<=_;omega
 clear hR;simp only[];go_wp2;have eD:=nH HZ2.out 0 0 0 0 0;have mF:=AJ HB2.out adF.out (.int .i64 0) (.int .i64 0) (.int .i64 0) (.int .i64 0) (.int .i64 0);generalize (((((w2.setCell ⟨R,0,none⟩ (.int .i64 0)).setCell ⟨R,1,none⟩ (.int .i64 0)).setCell ⟨R,2,none⟩ (.int .i64 0)).setCell ⟨R,3,none⟩ (.int .i64 0)).setCell ⟨R,4,none⟩ (.int .i64 0))=Wf at *;have z0:Wf.cell? ⟨R,0,none⟩=some (.int .i64 0):=by rw[cR Wf _ 0 _ _ _ eD];rfl
 have cK:Wf.cell? ⟨R,1,none⟩=some (.int .i64 0):=by rw[cR Wf _ 1 _ _ _ eD];rfl
 have z2:Wf.cell? ⟨R,2,none⟩=some (.int .i64 0):=by rw[cR Wf _ 2 _ _ _ eD];rfl
 have z3:Wf.cell? ⟨R,3,none⟩=some (.int .i64 0):=by rw[cR Wf _ 3 _ _ _ eD];rfl
 have z4:Wf.cell? ⟨R,4,none⟩=some (.int .i64 0):=by rw[cR Wf _ 4 _ _ _ eD];rfl
 exact bodyPost_ret (v:=.tuple #[.agg #[.int .i64 0,.int .i64 0,.int .i64 0,.int .i64 0,.int .i64 0],.iface 412 (ev (d+1))]) (by simp[results,Tryz.results217,go_sem,z0,cK,z2,z3,z4]) rfl ⟨rfl,v,hF.out.later mF,bC.of_below mF P I b v⟩
theorem adG (a:Ask) (hF:Hid (aU w W F P I b v L pf n wd h)) (he:Hid (dR w ev)) (hok:Hid (Fs.dO L pf)) (hk:Hid (Fl.fH a 99=0)) (hm:Hid (Fl.mine L a=false)) :
  Calls Tryz.prog 217 #[.pointer (some ⟨F,0,none⟩),cr a] W fun e W'=>e=.returned (.tuple #[bJ (Fl.fy L a),cw ev (Fl.cW L pf a)])∧∃ v',aU w W' F P I b v' (Fl.dZ L a) (Fl.jE L pf a) n wd h∧bC W W' P I b v v':=by
 have hit:=Fl.Eb hk.out;obtain⟨i,hi⟩:∃ i:Nat,a.it=i:=⟨a.it.toNat,by omega⟩;have bO:i<3:=by omega
 have j0:a.it.toNat=i:=by omega
 have HK:=hDq (fun W' (hb:Below W.heap.size W W')=>AL a 99 W' ((hF.out.bP he.out).below hb) (by decide));rw[Fl.Kd hk.out,show cw ev 0=.nilIface from rfl]at HK;have xT:Fl.cW L pf a=5:=by unfold Fl.cW;rw[if_pos hk.out,if_neg (by rw[hm.out];simp)]
 have hX:Fl.fy L a=Cv.z:=by unfold Fl.fy;rw[if_neg (fun h=>by rw[hm.out]at h;simp at h)]
 have hL:Fl.dZ L a=L:=by unfold Fl.dZ;rw[if_neg (fun h=>by rw[hm.out]at h;simp at h)]
 have hP:Fl.jE L pf a=pf:=by unfold Fl.jE;rw[if_neg (fun h=>by rw[hm.out]at h;simp at h)]
 rw[hX,hL,hP,xT,show cw ev 5=.iface 412 (ev 5) from rfl];clear hX hL hP xT;have hmm:=hm.out;unfold Fl.mine at hmm;rw[j0]at hmm;obtain⟨aY,ac,ck,gO,asd,bA,aq,aZ⟩:=a;simp only[]at hi j0;subst hi;unfold cr bw at HK ⊢;simp only[]at HK ⊢;simp only[]at hmm;obtain⟨is,Ef⟩:∃ is,Cv.has (L i) aZ=is:=⟨_,rfl⟩;obtain⟨⟨x0,x1,x2,x3,x4⟩,hX⟩:∃ X,Bk.jv (L i) aZ=X:=⟨_,rfl⟩;have AP:Hid (Cv.has (L i) aZ=is∧Bk.jv (L i) aZ=⟨x0,x1,x2,x3,x4⟩):=⟨Ef,hX⟩;have hno:is=false∨is=true∧x1≠ac:=by
  cases is with
  | false=>exact .inl rfl
  | true =>
   refine .inr ⟨rfl,fun e=>?_⟩;rw[Ef,Bool.true_and]at hmm;have hn:Cv.nth (L i) (Bk.pos (L i) aZ)=⟨x0,x1,x2,x3,x4⟩:=by rw[<- hX];unfold Bk.jv;rw[if_pos Ef]
   rw[hn]at hmm;simp[e]at hmm
 clear hmm Ef hX;clear hit hk j0;obtain⟨R,hR⟩:∃ R,W.heap.size+1=R:=⟨_,rfl⟩;obtain⟨A,hA⟩:∃ A,W.heap.size=A:=⟨_,rfl⟩;obtain⟨w1,dS⟩:∃ w1,(W.alloc (.cells #[.int .u8 aY,.int .i64 ac,.int .i64 ck,.int .i64 i,.int .i64 asd,.int .i64 bA,.int .i64 aq,.int .i64 aZ] 95)).alloc (.cells #[.int .i64 0,.int .i64 0,.int .i64 0,.int .i64 0,.int .i64 0] 197)=w1:=⟨_,rfl⟩;have hb1:Below W.heap.size W w1:=by rw[<- dS];exact((bRq _ _).alloc (lRq _) _).alloc (by simp) _
 have HR1:Hid (w1.heap[R]?=some (.cells #[.int .i64 0,.int .i64 0,.int .i64 0,.int .i64 0,.int .i64 0] 197 (0,0))):=by
  show _=_;rw[<- dS,<- hR]
  have:=hNq (W.alloc (.cells #[.int .u8 aY,.int .i64 ac,.int .i64 ck,.int .i64 i,.int .i64 asd,.int .i64 bA,.int .i64 aq,.int .i64 aZ] 95)) (.cells #[.int .i64 0,.int .i64 0,.int .i64 0,.int .i64 0,.int .i64 0] 197)
  simpa using this
 have HA1:Hid (w1.heap[A]?=some (.cells #[.int .u8 aY,.int .i64 ac,.int .i64 ck,.int .i64 i,.int .i64 asd,.int .i64 bA,.int .i64 aq,.int .i64 aZ] 95 (0,0))):=by
  show _=_;rw[<- dS,<- hA];exact(Below.heap_alloc _ _ _ (by simp)).trans (hNq W _)
 have HB1:=hDq hb1;have HRW:Hid (W.heap.size<=R):=by show _<=_;omega
 have HW1:=hDq dS;have iK:=hDq hR;have oV:=hDq hA;clear hb1 dS hR hA;go_enter Tryz.func217,Tryz.ntmps217
 go_wp2_with fail
 rw[HW1.out,iK.out,oV.out];refine(HK.out _ HB1.out).mono ?_;rintro e w2 ⟨rfl,hb2⟩;have hbW2:=HB1.out.trans (hb2.mono HB1.out.size);have aT:Hid (w2.heap[R]?=some (.cells #[.int .i64 0,.int .i64 0,.int .i64 0,.int .i64 0,.int .i64 0] 197 (0,0))):=by show _=_;rw[hb2.block _ (lBq HR1.out)];exact HR1.out
 have bX:Hid (w2.heap[A]?=some (.cells #[.int .u8 aY,.int .i64 ac,.int .i64 ck,.int .i64 i,.int .i64 asd,.int .i64 bA,.int .i64 aq,.int .i64 aZ] 95 (0,0))):=by show _=_;rw[hb2.block _ (lBq HA1.out)];exact HA1.out
 have bT:=hDq (hF.out.later hbW2);have HS2:=hDq (bC.of_below hbW2 P I b v);clear hb2 hbW2 HB1 HR1 HA1 HW1 iK oV HK;have j3:(0:Int)<=(i:Int):=by omega
 have Sf:(i:Int)<3:=by omega
 simp only[]
 go_wp2_with fail
 obtain⟨bZ,val,hcl,aW⟩:=AQ F (I i) A (.cells (sZ I P wd h) 210 (0,0)) (.cells (s4 (b i) (n (i*2)) (n (i*2+1))) 267 (0,0)) (.cells #[.int .u8 aY,.int .i64 ac,.int .i64 ck,.int .i64 i,.int .i64 asd,.int .i64 bA,.int .i64 aq,.int .i64 aZ] 95 (0,0));obtain⟨y0,kW⟩:=aW w2.drew ⟨bT.out.blk,bT.out.it i bO,bX.out⟩;have hnx:Nonempty bZ:=⟨y0⟩;have Ke:∀ x,(val x).cell? ⟨F,2+i,none⟩=some (.pointer (some ⟨I i,0,none⟩)):=fun x=>by
  rw[cR _ _ _ _ _ _ (hcl x).1];have:i=0∨i=1∨i=2:=by omega
  rcases this with rfl | rfl | rfl <;> rfl
 have eb:∀ x,(val x).cell? ⟨I i,0,none⟩=some (.pointer (some ⟨b i,0,none⟩)):=fun x=>by rw[cR _ _ _ _ _ _ (hcl x).2.1];rfl
 have e3:∀ x,(val x).cell? ⟨A,3,none⟩=some (.int .i64 i):=fun x=>by rw[cR _ _ _ _ _ _ (hcl x).2.2];rfl
 have e7:∀ x,(val x).cell? ⟨A,7,none⟩=some (.int .i64 aZ):=fun x=>by rw[cR _ _ _ _ _ _ (hcl x).2.2];rfl
 have hbd:Below w2.heap.size w2 w2.drew:=⟨rfl,rfl,rfl,lRq _,fun _ _=>rfl⟩;have cG:=hDq (bT.out.later hbd);have cY:=hDq (HS2.out.below hbd);have bF:Hid (w2.drew.heap[R]?=some (.cells #[.int .i64 0,.int .i64 0,.int .i64 0,.int .i64 0,.int .i64 0] 197 (0,0))):=aT.out;have gF:Hid (w2.drew.heap[A]?=some (.cells #[.int .u8 aY,.int .i64 ac,.int .i64 ck,.int .i64 i,.int .i64 asd,.int .i64 bA,.int .i64 aq,.int .i64 aZ] 95 (0,0))):=bX.out;obtain⟨w4,hw4⟩:∃ w4,w2.drew=w4:=⟨_,rfl⟩;rw[hw4]at cG cY bF gF;have aV:Hid (∀ W',Below w4.heap.size w4 W'->∃ x,val x=W'):=fun W' hb=>aW W' ⟨(cG.out.later hb).blk,(cG.out.later hb).it i bO,by rw[hb.block _ (lBq gF.out)];exact gF.out⟩;have je:Hid (∀ W',Below w4.heap.size w4 W'->Calls Tryz.prog 192 #[.pointer (some ⟨b i,0,none⟩),.int .i64 aZ] W' fun e w'=>e=.returned (.tuple #[.agg #[.int .i64 x0,.int .i64 x1,.int .i64 x2,.int .i64 x3,.int .i64 x4],.bool is])∧Below W'.heap.size W' w'):=fun W' hb=>by
  have:=DU (b i) w.heap.size (v i) aZ (L i) W' ((cG.out.later hb).aB i bO) (hok.out.aB i bO).len
  rw[AP.out.1,AP.out.2]at this;exact this
 clear aW hcl bT HS2 aT bX hbd;refine xU (val:=val) (fun D aj=>aj.heap[D]?=some (.cells #[.int .i64 x0,.int .i64 x1,.int .i64 x2,.int .i64 x3,.int .i64 x4] 197 (0,0))∧w4.heap.size<=D∧Below w4.heap.size w4 aj) (.read 0 (.read 1 (.read 2 (.read 3 (.read 4 (.read 5 (.read 6 (.read 7 (.read 8 (.read 9 (.read 10 (.read 11 (.two 12 (.read 13 (.read 14 (.read 15 (.one 16 (.one 17 (.read 18 .done)))))) 16 (.one 12 (.read 13 (.read 14 (.read 15 (.one 17 (.read 18 .done))))))))))))))))))) (by kernel_rfl) (by kernel_rfl) y0 kW ?_;apply Exists.intro;refine⟨?_,?_⟩
 case' refine_1 =>
  rw[kW,hw4]
  iterate 12 (refine cF rfl (fun K hK=>?_);refine⟨by rfl,?_⟩;unfold aI;go_simp;refine hK _ ?_;clear hK K)
  have fI:Hid (Below w4.heap.size w4 w4):=bRq _ _;refine⟨?_,?_⟩
  case refine_1 =>
   refine b_ rfl (fun K hK=>?_);refine⟨by rfl,?_⟩;unfold aR;go_simp;refine(je.out _ fI.out).mono ?_;rintro e wc ⟨rfl,hbc⟩;have gb:=hDq (fI.out.trans (hbc.mono fI.out.size));refine⟨_,rfl,aV.out _ gb.out,hK _ _ ?_⟩;clear hK K hbc
   iterate 3 (refine cF rfl (fun K hK=>?_);refine⟨by rfl,?_⟩;unfold aI;go_simp;refine hK _ ?_;clear hK K)
   refine b_ rfl (fun K hK=>?_);refine⟨by rfl,?_⟩;unfold aR;go_simp;obtain⟨D,hD⟩:∃ D,wc.heap.size=D:=⟨_,rfl⟩;obtain⟨ar,hwz⟩:∃ ar,wc.alloc (.cells #[.int .i64 0,.int .i64 0,.int .i64 0,.int .i64 0,.int .i64 0] 197)=ar:=⟨_,rfl⟩;rw[hD,hwz];have b9:Hid (Below w4.heap.size w4 ar):=by show Below _ _ _;rw[<- hwz];exact gb.out.alloc gb.out.size _
   have ay:Hid (ar.heap[D]?=some (.cells #[.int .i64 0,.int .i64 0,.int .i64 0,.int .i64 0,.int .i64 0] 197 (0,0))):=by show _=_;rw[<- hwz,<- hD];exact hNq _ _
   have eX:Hid (w4.heap.size<=D):=by have:=gb.out.size;show _<=_;omega
   refine⟨aV.out _ b9.out,hK _ _ ?_⟩;clear hK K hwz hD;have c0:ar.cell? ⟨D,0,none⟩=some (.int .i64 0):=by rw[cR ar _ 0 _ _ _ ay.out];rfl
   have f0:ar.frozen? ⟨D,0,none⟩=false:=by simp[World.frozen?,ay.out]
   have c1:ar.cell? ⟨D,1,none⟩=some (.int .i64 0):=by rw[cR ar _ 1 _ _ _ ay.out];rfl
   have f1:ar.frozen? ⟨D,1,none⟩=false:=by simp[World.frozen?,ay.out]
   have c2:ar.cell? ⟨D,2,none⟩=some (.int .i64 0):=by rw[cR ar _ 2 _ _ _ ay.out];rfl
   have f2:ar.frozen? ⟨D,2,none⟩=false:=by simp[World.frozen?,ay.out]
   have c3:ar.cell? ⟨D,3,none⟩=some (.int .i64 0):=by rw[cR ar _ 3 _ _ _ ay.out];rfl
   have f3:ar.frozen? ⟨D,3,none⟩=false:=by simp[World.frozen?,ay.out]
   have c4:ar.cell? ⟨D,4,none⟩=some (.int .i64 0):=by rw[cR ar _ 4 _ _ _ ay.out];rfl
   have f4:ar.frozen? ⟨D,4,none⟩=false:=by simp[World.frozen?,ay.out]
   have HX:=hDq (nH ay.out x0 x1 x2 x3 x4);have aS:=hDq (AJ b9.out eX.out (.int .i64 x0) (.int .i64 x1) (.int .i64 x2) (.int .i64 x3) (.int .i64 x4));refine b_ rfl (fun K hK=>?_);refine⟨by rfl,?_⟩;unfold aR;go_simp;refine⟨aV.out _ aS.out,hK _ _ ?_⟩;clear hK K ay c0 c1 c2 c3 c4 f0 f1 f2 f3 f4;generalize (((((ar.setCell ⟨D,0,none⟩ (.int .i64 x0)).setCell ⟨D,1,none⟩ (.int .i64 x1)).setCell ⟨D,2,none⟩ (.int .i64 x2)).setCell ⟨D,3,none⟩ (.int .i64 x3)).setCell ⟨D,4,none⟩ (.int .i64 x4))=aj at *;refine cF rfl (fun K hK=>?_);refine⟨by rfl,?_⟩;unfold aI;go_simp;refine hK _ ?_;clear hK K;refine kD ?_;exact⟨D,rfl,HX.out,eX.out,aS.out⟩
  case refine_2 =>
   refine b_ rfl (fun K hK=>?_);refine⟨by rfl,?_⟩;unfold aR;go_simp;obtain⟨D,hD⟩:∃ D,w4.heap.size=D:=⟨_,rfl⟩;obtain⟨iL,hwz⟩:∃ ar,w4.alloc (.cells #[.int .i64 0,.int .i64 0,.int .i64 0,.int .i64 0,.int .i64 0] 197)=ar:=⟨_,rfl⟩;rw[hD,hwz];have dU:Hid (Below w4.heap.size w4 iL):=by show Below _ _ _;rw[<- hwz];exact fI.out.alloc fI.out.size _
   have oW:Hid (iL.heap[D]?=some (.cells #[.int .i64 0,.int .i64 0,.int .i64 0,.int .i64 0,.int .i64 0] 197 (0,0))):=by show _=_;rw[<- hwz,<- hD];exact hNq _ _
   have eX:Hid (w4.heap.size<=D):=by have:=fI.out.size;show _<=_;omega
   refine⟨aV.out _ dU.out,hK _ _ ?_⟩;clear hK K hwz hD;refine b_ rfl (fun K hK=>?_);refine⟨by rfl,?_⟩;unfold aR;go_simp;refine(je.out _ dU.out).mono ?_;rintro e ar ⟨rfl,hbc⟩;have b9:=hDq (dU.out.trans (hbc.mono dU.out.size));have ay:Hid (ar.heap[D]?=some (.cells #[.int .i64 0,.int .i64 0,.int .i64 0,.int .i64 0,.int .i64 0] 197 (0,0))):=by show _=_;rw[hbc.block _ (lBq oW.out)];exact oW.out
   refine⟨_,rfl,aV.out _ b9.out,hK _ _ ?_⟩;clear hK K hbc
   iterate 3 (refine cF rfl (fun K hK=>?_);refine⟨by rfl,?_⟩;unfold aI;go_simp;refine hK _ ?_;clear hK K)
   have c0:ar.cell? ⟨D,0,none⟩=some (.int .i64 0):=by rw[cR ar _ 0 _ _ _ ay.out];rfl
   have f0:ar.frozen? ⟨D,0,none⟩=false:=by simp[World.frozen?,ay.out]
   have c1:ar.cell? ⟨D,1,none⟩=some (.int .i64 0):=by rw[cR ar _ 1 _ _ _ ay.out];rfl
   have f1:ar.frozen? ⟨D,1,none⟩=false:=by simp[World.frozen?,ay.out]
   have c2:ar.cell? ⟨D,2,none⟩=some (.int .i64 0):=by rw[cR ar _ 2 _ _ _ ay.out];rfl
   have f2:ar.frozen? ⟨D,2,none⟩=false:=by simp[World.frozen?,ay.out]
   have c3:ar.cell? ⟨D,3,none⟩=some (.int .i64 0):=by rw[cR ar _ 3 _ _ _ ay.out];rfl
   have f3:ar.frozen? ⟨D,3,none⟩=false:=by simp[World.frozen?,ay.out]
   have c4:ar.cell? ⟨D,4,none⟩=some (.int .i64 0):=by rw[cR ar _ 4 _ _ _ ay.out];rfl
   have f4:ar.frozen? ⟨D,4,none⟩=false:=by simp[World.frozen?,ay.out]
   have HX:=hDq (nH ay.out x0 x1 x2 x3 x4);have aS:=hDq (AJ b9.out eX.out (.int .i64 x0) (.int .i64 x1) (.int .i64 x2) (.int .i64 x3) (.int .i64 x4));refine b_ rfl (fun K hK=>?_);refine⟨by rfl,?_⟩;unfold aR;go_simp;refine⟨aV.out _ aS.out,hK _ _ ?_⟩;clear hK K ay c0 c1 c2 c3 c4 f0 f1 f2 f3 f4;generalize (((((ar.setCell ⟨D,0,none⟩ (.int .i64 x0)).setCell ⟨D,1,none⟩ (.int .i64 x1)).setCell ⟨D,2,none⟩ (.int .i64 x2)).setCell ⟨D,3,none⟩ (.int .i64 x3)).setCell ⟨D,4,none⟩ (.int .i64 x4))=aj at *;refine cF rfl (fun K hK=>?_);refine⟨by rfl,?_⟩;unfold aI;go_simp;refine hK _ ?_;clear hK K;refine kD ?_;exact⟨D,rfl,HX.out,eX.out,aS.out⟩
 intro D aj ⟨oX,oY,hb6⟩;have HX:=hDq oX;have eA:=hDq (cG.out.later hb6);have d_:=hDq (cY.out.below hb6);have bu:Hid (aj.heap[R]?=some (.cells #[.int .i64 0,.int .i64 0,.int .i64 0,.int .i64 0,.int .i64 0] 197 (0,0))):=by show _=_;rw[hb6.block _ (lBq bF.out)];exact bF.out
 have hZ:Hid (aj.heap[A]?=some (.cells #[.int .u8 aY,.int .i64 ac,.int .i64 ck,.int .i64 i,.int .i64 asd,.int .i64 bA,.int .i64 aq,.int .i64 aZ] 95 (0,0))):=by show _=_;rw[hb6.block _ (lBq gF.out)];exact gF.out
 have HDR:Hid (D≠R):=fun e=>by have:=lBq bF.out;omega
 have qR:=hDq (cG.out.fresh oY);have lO:=hDq (hF.out.fresh HRW.out);clear oX oY hb6 cG cY bF gF je hw4;clear kW Ke eb e3 e7 aV;clear y0 hnx;clear val;clear bZ;have d0:aj.cell? ⟨D,0,none⟩=some (.int .i64 x0):=by rw[cR aj _ 0 _ _ _ HX.out];rfl
 have d1:aj.cell? ⟨D,1,none⟩=some (.int .i64 x1):=by rw[cR aj _ 1 _ _ _ HX.out];rfl
 have d2:aj.cell? ⟨D,2,none⟩=some (.int .i64 x2):=by rw[cR aj _ 2 _ _ _ HX.out];rfl
 have d3:aj.cell? ⟨D,3,none⟩=some (.int .i64 x3):=by rw[cR aj _ 3 _ _ _ HX.out];rfl
 have d4:aj.cell? ⟨D,4,none⟩=some (.int .i64 x4):=by rw[cR aj _ 4 _ _ _ HX.out];rfl
 have a1:aj.cell? ⟨A,1,none⟩=some (.int .i64 ac):=by rw[cR aj _ 1 _ _ _ hZ.out];rfl
 have a3:aj.cell? ⟨A,3,none⟩=some (.int .i64 i):=by rw[cR aj _ 3 _ _ _ hZ.out];rfl
 rcases hno with e | ⟨e,hne⟩
 ·subst e
  have g5:=(eA.out.bP he.out).c5;have Kf:¬ (6=R):=fun e=>by have:=bCq _ _ (hF.out.bP he.out).c5;have:=HRW.out;simp at *;omega
  have qa:¬ (R=6):=fun e=>Kf e.symm;have r0:aj.cell? ⟨R,0,none⟩=some (.int .i64 0):=by rw[cR aj _ 0 _ _ _ bu.out];rfl
  have q0:aj.frozen? ⟨R,0,none⟩=false:=by simp[World.frozen?,bu.out]
  have r1:aj.cell? ⟨R,1,none⟩=some (.int .i64 0):=by rw[cR aj _ 1 _ _ _ bu.out];rfl
  have q1:aj.frozen? ⟨R,1,none⟩=false:=by simp[World.frozen?,bu.out]
  have r2:aj.cell? ⟨R,2,none⟩=some (.int .i64 0):=by rw[cR aj _ 2 _ _ _ bu.out];rfl
  have q2:aj.frozen? ⟨R,2,none⟩=false:=by simp[World.frozen?,bu.out]
  have r3:aj.cell? ⟨R,3,none⟩=some (.int .i64 0):=by rw[cR aj _ 3 _ _ _ bu.out];rfl
  have q3:aj.frozen? ⟨R,3,none⟩=false:=by simp[World.frozen?,bu.out]
  have r4:aj.cell? ⟨R,4,none⟩=some (.int .i64 0):=by rw[cR aj _ 4 _ _ _ bu.out];rfl
  have q4:aj.frozen? ⟨R,4,none⟩=false:=by simp[World.frozen?,bu.out]
  go_wp2
  go_region
  go_wp2;have eD:=nH bu.out 0 0 0 0 0;have bB:=vu aj R (.int .i64 0) (.int .i64 0) (.int .i64 0) (.int .i64 0) (.int .i64 0);have vv:=(eA.out.aside lO.out.1 lO.out.2.1 lO.out.2.2 (lTq hF.out.dv.size HRW.out) bB).later (dn 1);have j4:=(d_.out.newer bB HRW.out).below (dn 1);have AR:((((((aj.setCell ⟨R,0,none⟩ (.int .i64 0)).setCell ⟨R,1,none⟩ (.int .i64 0)).setCell ⟨R,2,none⟩ (.int .i64 0)).setCell ⟨R,3,none⟩ (.int .i64 0)).setCell ⟨R,4,none⟩ (.int .i64 0)).drewN 1).heap[R]?=some (.cells #[.int .i64 0,.int .i64 0,.int .i64 0,.int .i64 0,.int .i64 0] 197 (0,0)):=eD;clear bB eD;have eD:=AR;clear AR;rw[show (((((aj.setCell ⟨R,0,none⟩ (.int .i64 0)).setCell ⟨R,1,none⟩ (.int .i64 0)).setCell ⟨R,2,none⟩ (.int .i64 0)).setCell ⟨R,3,none⟩ (.int .i64 0)).setCell ⟨R,4,none⟩ (.int .i64 0)).drewN 1=(((((aj.setCell ⟨R,0,none⟩ (.int .i64 0)).setCell ⟨R,1,none⟩ (.int .i64 0)).setCell ⟨R,2,none⟩ (.int .i64 0)).setCell ⟨R,3,none⟩ (.int .i64 0)).setCell ⟨R,4,none⟩ (.int .i64 0)).drew from rfl]at vv j4 eD;generalize (((((aj.setCell ⟨R,0,none⟩ (.int .i64 0)).setCell ⟨R,1,none⟩ (.int .i64 0)).setCell ⟨R,2,none⟩ (.int .i64 0)).setCell ⟨R,3,none⟩ (.int .i64 0)).setCell ⟨R,4,none⟩ (.int .i64 0)).drew=Wf at *;have z0:Wf.cell? ⟨R,0,none⟩=some (.int .i64 0):=by rw[cR Wf _ 0 _ _ _ eD];rfl
  have cK:Wf.cell? ⟨R,1,none⟩=some (.int .i64 0):=by rw[cR Wf _ 1 _ _ _ eD];rfl
  have z2:Wf.cell? ⟨R,2,none⟩=some (.int .i64 0):=by rw[cR Wf _ 2 _ _ _ eD];rfl
  have z3:Wf.cell? ⟨R,3,none⟩=some (.int .i64 0):=by rw[cR Wf _ 3 _ _ _ eD];rfl
  have z4:Wf.cell? ⟨R,4,none⟩=some (.int .i64 0):=by rw[cR Wf _ 4 _ _ _ eD];rfl
  exact bodyPost_ret (v:=.tuple #[.agg #[.int .i64 0,.int .i64 0,.int .i64 0,.int .i64 0,.int .i64 0],.iface 412 (ev 5)]) (by simp[results,Tryz.results217,go_sem,z0,cK,z2,z3,z4]) rfl ⟨rfl,v,vv,j4⟩
 ·subst e
  have jS:(x1 != ac)=true:=by simpa using hne
  have g5:=(eA.out.bP he.out).c5;have Kf:¬ (6=R):=fun e=>by have:=bCq _ _ (hF.out.bP he.out).c5;have:=HRW.out;simp at *;omega
  have qa:¬ (R=6):=fun e=>Kf e.symm;have r0:aj.cell? ⟨R,0,none⟩=some (.int .i64 0):=by rw[cR aj _ 0 _ _ _ bu.out];rfl
  have q0:aj.frozen? ⟨R,0,none⟩=false:=by simp[World.frozen?,bu.out]
  have r1:aj.cell? ⟨R,1,none⟩=some (.int .i64 0):=by rw[cR aj _ 1 _ _ _ bu.out];rfl
  have q1:aj.frozen? ⟨R,1,none⟩=false:=by simp[World.frozen?,bu.out]
  have r2:aj.cell? ⟨R,2,none⟩=some (.int .i64 0):=by rw[cR aj _ 2 _ _ _ bu.out];rfl
  have q2:aj.frozen? ⟨R,2,none⟩=false:=by simp[World.frozen?,bu.out]
  have r3:aj.cell? ⟨R,3,none⟩=some (.int .i64 0):=by rw[cR aj _ 3 _ _ _ bu.out];rfl
  have q3:aj.frozen? ⟨R,3,none⟩=false:=by simp[World.frozen?,bu.out]
  have r4:aj.cell? ⟨R,4,none⟩=some (.int .i64 0):=by rw[cR aj _ 4 _ _ _ bu.out];rfl
  have q4:aj.frozen? ⟨R,4,none⟩=false:=by simp[World.frozen?,bu.out]
  go_wp2
  go_region
  go_wp2;have eD:=nH bu.out 0 0 0 0 0;have bB:=vu aj R (.int .i64 0) (.int .i64 0) (.int .i64 0) (.int .i64 0) (.int .i64 0);have vv:=(eA.out.aside lO.out.1 lO.out.2.1 lO.out.2.2 (lTq hF.out.dv.size HRW.out) bB).later (dn 1);have j4:=(d_.out.newer bB HRW.out).below (dn 1);have AR:((((((aj.setCell ⟨R,0,none⟩ (.int .i64 0)).setCell ⟨R,1,none⟩ (.int .i64 0)).setCell ⟨R,2,none⟩ (.int .i64 0)).setCell ⟨R,3,none⟩ (.int .i64 0)).setCell ⟨R,4,none⟩ (.int .i64 0)).drewN 1).heap[R]?=some (.cells #[.int .i64 0,.int .i64 0,.int .i64 0,.int .i64 0,.int .i64 0] 197 (0,0)):=eD;clear bB eD;have eD:=AR;clear AR;rw[show (((((aj.setCell ⟨R,0,none⟩ (.int .i64 0)).setCell ⟨R,1,none⟩ (.int .i64 0)).setCell ⟨R,2,none⟩ (.int .i64 0)).setCell ⟨R,3,none⟩ (.int .i64 0)).setCell ⟨R,4,none⟩ (.int .i64 0)).drewN 1=(((((aj.setCell ⟨R,0,none⟩ (.int .i64 0)).setCell ⟨R,1,none⟩ (.int .i64 0)).setCell ⟨R,2,none⟩ (.int .i64 0)).setCell ⟨R,3,none⟩ (.int .i64 0)).setCell ⟨R,4,none⟩ (.int .i64 0)).drew from rfl]at vv j4 eD;generalize (((((aj.setCell ⟨R,0,none⟩ (.int .i64 0)).setCell ⟨R,1,none⟩ (.int .i64 0)).setCell ⟨R,2,none⟩ (.int .i64 0)).setCell ⟨R,3,none⟩ (.int .i64 0)).setCell ⟨R,4,none⟩ (.int .i64 0)).drew=Wf at *;have z0:Wf.cell? ⟨R,0,none⟩=some (.int .i64 0):=by rw[cR Wf _ 0 _ _ _ eD];rfl
  have cK:Wf.cell? ⟨R,1,none⟩=some (.int .i64 0):=by rw[cR Wf _ 1 _ _ _ eD];rfl
  have z2:Wf.cell? ⟨R,2,none⟩=some (.int .i64 0):=by rw[cR Wf _ 2 _ _ _ eD];rfl
  have z3:Wf.cell? ⟨R,3,none⟩=some (.int .i64 0):=by rw[cR Wf _ 3 _ _ _ eD];rfl
  have z4:Wf.cell? ⟨R,4,none⟩=some (.int .i64 0):=by rw[cR Wf _ 4 _ _ _ eD];rfl
  exact bodyPost_ret (v:=.tuple #[.agg #[.int .i64 0,.int .i64 0,.int .i64 0,.int .i64 0,.int .i64 0],.iface 412 (ev 5)]) (by simp[results,Tryz.results217,go_sem,z0,cK,z2,z3,z4]) rfl ⟨rfl,v,vv,j4⟩
theorem adH (a:Ask) (hF:Hid (aU w W F P I b v L pf n wd h)) (he:Hid (dR w ev)) (hok:Hid (Fs.dO L pf)) (hk:Hid (Fl.fH a 99=0)) (hm:Hid (Fl.mine L a=true)) :
  Calls Tryz.prog 217 #[.pointer (some ⟨F,0,none⟩),cr a] W fun e W'=>e=.returned (.tuple #[bJ (Fl.fy L a),cw ev (Fl.cW L pf a)])∧∃ v',aU w W' F P I b v' (Fl.dZ L a) (Fl.jE L pf a) n wd h∧bC W W' P I b v v':=by
 have hit:=Fl.Eb hk.out;obtain⟨i,hi⟩:∃ i:Nat,a.it=i:=⟨a.it.toNat,by omega⟩;have bO:i<3:=by omega
 have j0:a.it.toNat=i:=by omega
 have HK:=hDq (fun W' (hb:Below W.heap.size W W')=>AL a 99 W' ((hF.out.bP he.out).below hb) (by decide));rw[Fl.Kd hk.out,show cw ev 0=.nilIface from rfl]at HK;have Sg:=Fl.R5 hok.out hk.out hm.out;have hX:Fl.fy L a=Cv.nth (L i) (Bk.pos (L i) a.id):=by unfold Fl.fy;rw[if_pos ⟨hk.out,hm.out⟩,j0]
 have hL:Fl.dZ L a=upd L i (Bk.dZ (L i) a.id):=by
  unfold Fl.dZ;rw[if_pos ⟨hk.out,hm.out⟩,j0];have hh:Cv.has (L i) a.id=true:=by have:=hm.out;unfold Fl.mine at this;rw[j0]at this;simp only[Bool.and_eq_true]at this;exact this.1
  have hc0:Bk.cW (L i) a.id=0:=by unfold Bk.cW;rw[if_pos hh]
  unfold Bk.dZ;rw[if_pos hc0]
 have hP:Fl.jE L pf a=Pu.eP pf a.it (Cv.nth (L i) (Bk.pos (L i) a.id)):=by unfold Fl.jE;rw[if_pos ⟨hk.out,hm.out⟩,hX]
 rw[hX,hL,hP,Sg.1,show cw ev 0=.nilIface from rfl];clear hX hL hP Sg;have hmm:=hm.out;unfold Fl.mine at hmm;rw[j0]at hmm;obtain⟨aY,ac,ck,gO,asd,bA,aq,aZ⟩:=a;simp only[]at hi j0;subst hi;unfold cr bw at HK ⊢;simp only[]at HK ⊢;simp only[Bool.and_eq_true,beq_iff_eq]at hmm;obtain⟨hh,how⟩:=hmm;have hgx:Bk.jv (L i) aZ=Cv.nth (L i) (Bk.pos (L i) aZ):=by unfold Bk.jv;rw[if_pos hh]
 have Kg:(Cv.nth (L i) (Bk.pos (L i) aZ)).id=aZ:=Bk.Ac (Bk.qI.1 hh);obtain⟨⟨x0,x1,x2,x3,x4⟩,hX⟩:∃ X,Cv.nth (L i) (Bk.pos (L i) aZ)=X:=⟨_,rfl⟩;rw[hX]at hgx how Kg;rw[hX];simp only[]at how Kg;subst how;subst Kg;have AP:Hid (Cv.has (L i) x0=true∧Bk.jv (L i) x0=⟨x0,x1,x2,x3,x4⟩):=⟨hh,hgx⟩;clear hgx hX hh;unfold bJ;simp only[];have pY:Hid (∀ W',aU w W' F P I b v L pf n wd h->Calls Tryz.prog 214 #[.pointer (some ⟨F,0,none⟩),.int .i64 i,.agg #[.int .i64 x0,.int .i64 x1,.int .i64 x2,.int .i64 x3,.int .i64 x4]] W' fun e Si=>e=.returned (.tuple #[])∧∃ v',aU w Si F P I b v' (upd L i (Bk.dZ (L i) x0)) (Pu.eP pf i ⟨x0,x1,x2,x3,x4⟩) n wd h∧bC W' Si P I b v v'):=fun W' hf=>Sj i bO ⟨x0,x1,x2,x3,x4⟩ hf he.out hok.out.good (hok.out.aB i bO).len;clear hit hk j0;obtain⟨R,hR⟩:∃ R,W.heap.size+1=R:=⟨_,rfl⟩;obtain⟨A,hA⟩:∃ A,W.heap.size=A:=⟨_,rfl⟩;obtain⟨w1,dS⟩:∃ w1,(W.alloc (.cells #[.int .u8 aY,.int .i64 x1,.int .i64 ck,.int .i64 i,.int .i64 asd,.int .i64 bA,.int .i64 aq,.int .i64 x0] 95)).alloc (.cells #[.int .i64 0,.int .i64 0,.int .i64 0,.int .i64 0,.int .i64 0] 197)=w1:=⟨_,rfl⟩;have hb1:Below W.heap.size W w1:=by rw[<- dS];exact((bRq _ _).alloc (lRq _) _).alloc (by simp) _
 have HR1:Hid (w1.heap[R]?=some (.cells #[.int .i64 0,.int .i64 0,.int .i64 0,.int .i64 0,.int .i64 0] 197 (0,0))):=by
  show _=_;rw[<- dS,<- hR]
  have:=hNq (W.alloc (.cells #[.int .u8 aY,.int .i64 x1,.int .i64 ck,.int .i64 i,.int .i64 asd,.int .i64 bA,.int .i64 aq,.int .i64 x0] 95)) (.cells #[.int .i64 0,.int .i64 0,.int .i64 0,.int .i64 0,.int .i64 0] 197)
  simpa using this
 have HA1:Hid (w1.heap[A]?=some (.cells #[.int .u8 aY,.int .i64 x1,.int .i64 ck,.int .i64 i,.int .i64 asd,.int .i64 bA,.int .i64 aq,.int .i64 x0] 95 (0,0))):=by
  show _=_;rw[<- dS,<- hA];exact(Below.heap_alloc _ _ _ (by simp)).trans (hNq W _)
 have HB1:=hDq hb1;have HRW:Hid (W.heap.size<=R):=by show _<=_;omega
 have HW1:=hDq dS;have iK:=hDq hR;have oV:=hDq hA;clear hb1 dS hR hA;go_enter Tryz.func217,Tryz.ntmps217
 go_wp2_with fail
 rw[HW1.out,iK.out,oV.out];refine(HK.out _ HB1.out).mono ?_;rintro e w2 ⟨rfl,hb2⟩;have hbW2:=HB1.out.trans (hb2.mono HB1.out.size);have aT:Hid (w2.heap[R]?=some (.cells #[.int .i64 0,.int .i64 0,.int .i64 0,.int .i64 0,.int .i64 0] 197 (0,0))):=by show _=_;rw[hb2.block _ (lBq HR1.out)];exact HR1.out
 have bX:Hid (w2.heap[A]?=some (.cells #[.int .u8 aY,.int .i64 x1,.int .i64 ck,.int .i64 i,.int .i64 asd,.int .i64 bA,.int .i64 aq,.int .i64 x0] 95 (0,0))):=by show _=_;rw[hb2.block _ (lBq HA1.out)];exact HA1.out
 have bT:=hDq (hF.out.later hbW2);have HS2:=hDq (bC.of_below hbW2 P I b v);clear hb2 hbW2 HB1 HR1 HA1 HW1 iK oV HK;have j3:(0:Int)<=(i:Int):=by omega
 have Sf:(i:Int)<3:=by omega
 simp only[]
 go_wp2_with fail
 obtain⟨bZ,val,hcl,aW⟩:=AQ F (I i) A (.cells (sZ I P wd h) 210 (0,0)) (.cells (s4 (b i) (n (i*2)) (n (i*2+1))) 267 (0,0)) (.cells #[.int .u8 aY,.int .i64 x1,.int .i64 ck,.int .i64 i,.int .i64 asd,.int .i64 bA,.int .i64 aq,.int .i64 x0] 95 (0,0));obtain⟨y0,kW⟩:=aW w2.drew ⟨bT.out.blk,bT.out.it i bO,bX.out⟩;have hnx:Nonempty bZ:=⟨y0⟩;have Ke:∀ x,(val x).cell? ⟨F,2+i,none⟩=some (.pointer (some ⟨I i,0,none⟩)):=fun x=>by
  rw[cR _ _ _ _ _ _ (hcl x).1];have:i=0∨i=1∨i=2:=by omega
  rcases this with rfl | rfl | rfl <;> rfl
 have eb:∀ x,(val x).cell? ⟨I i,0,none⟩=some (.pointer (some ⟨b i,0,none⟩)):=fun x=>by rw[cR _ _ _ _ _ _ (hcl x).2.1];rfl
 have e3:∀ x,(val x).cell? ⟨A,3,none⟩=some (.int .i64 i):=fun x=>by rw[cR _ _ _ _ _ _ (hcl x).2.2];rfl
 have e7:∀ x,(val x).cell? ⟨A,7,none⟩=some (.int .i64 x0):=fun x=>by rw[cR _ _ _ _ _ _ (hcl x).2.2];rfl
 have hbd:Below w2.heap.size w2 w2.drew:=⟨rfl,rfl,rfl,lRq _,fun _ _=>rfl⟩;have cG:=hDq (bT.out.later hbd);have cY:=hDq (HS2.out.below hbd);have bF:Hid (w2.drew.heap[R]?=some (.cells #[.int .i64 0,.int .i64 0,.int .i64 0,.int .i64 0,.int .i64 0] 197 (0,0))):=aT.out;have gF:Hid (w2.drew.heap[A]?=some (.cells #[.int .u8 aY,.int .i64 x1,.int .i64 ck,.int .i64 i,.int .i64 asd,.int .i64 bA,.int .i64 aq,.int .i64 x0] 95 (0,0))):=bX.out;obtain⟨w4,hw4⟩:∃ w4,w2.drew=w4:=⟨_,rfl⟩;rw[hw4]at cG cY bF gF;have aV:Hid (∀ W',Below w4.heap.size w4 W'->∃ x,val x=W'):=fun W' hb=>aW W' ⟨(cG.out.later hb).blk,(cG.out.later hb).it i bO,by rw[hb.block _ (lBq gF.out)];exact gF.out⟩;have je:Hid (∀ W',Below w4.heap.size w4 W'->Calls Tryz.prog 192 #[.pointer (some ⟨b i,0,none⟩),.int .i64 x0] W' fun e w'=>e=.returned (.tuple #[.agg #[.int .i64 x0,.int .i64 x1,.int .i64 x2,.int .i64 x3,.int .i64 x4],.bool true])∧Below W'.heap.size W' w'):=fun W' hb=>by
  have:=DU (b i) w.heap.size (v i) x0 (L i) W' ((cG.out.later hb).aB i bO) (hok.out.aB i bO).len
  rw[AP.out.1,AP.out.2]at this;exact this
 clear aW hcl bT HS2 aT bX hbd;refine xU (val:=val) (fun D aj=>aj.heap[D]?=some (.cells #[.int .i64 x0,.int .i64 x1,.int .i64 x2,.int .i64 x3,.int .i64 x4] 197 (0,0))∧w4.heap.size<=D∧Below w4.heap.size w4 aj) (.read 0 (.read 1 (.read 2 (.read 3 (.read 4 (.read 5 (.read 6 (.read 7 (.read 8 (.read 9 (.read 10 (.read 11 (.two 12 (.read 13 (.read 14 (.read 15 (.one 16 (.one 17 (.read 18 .done)))))) 16 (.one 12 (.read 13 (.read 14 (.read 15 (.one 17 (.read 18 .done))))))))))))))))))) (by kernel_rfl) (by kernel_rfl) y0 kW ?_;apply Exists.intro;refine⟨?_,?_⟩
 case' refine_1 =>
  rw[kW,hw4]
  iterate 12 (refine cF rfl (fun K hK=>?_);refine⟨by rfl,?_⟩;unfold aI;go_simp;refine hK _ ?_;clear hK K)
  have fI:Hid (Below w4.heap.size w4 w4):=bRq _ _;refine⟨?_,?_⟩
  case refine_1 =>
   refine b_ rfl (fun K hK=>?_);refine⟨by rfl,?_⟩;unfold aR;go_simp;refine(je.out _ fI.out).mono ?_;rintro e wc ⟨rfl,hbc⟩;have gb:=hDq (fI.out.trans (hbc.mono fI.out.size));refine⟨_,rfl,aV.out _ gb.out,hK _ _ ?_⟩;clear hK K hbc
   iterate 3 (refine cF rfl (fun K hK=>?_);refine⟨by rfl,?_⟩;unfold aI;go_simp;refine hK _ ?_;clear hK K)
   refine b_ rfl (fun K hK=>?_);refine⟨by rfl,?_⟩;unfold aR;go_simp;obtain⟨D,hD⟩:∃ D,wc.heap.size=D:=⟨_,rfl⟩;obtain⟨ar,hwz⟩:∃ ar,wc.alloc (.cells #[.int .i64 0,.int .i64 0,.int .i64 0,.int .i64 0,.int .i64 0] 197)=ar:=⟨_,rfl⟩;rw[hD,hwz];have b9:Hid (Below w4.heap.size w4 ar):=by show Below _ _ _;rw[<- hwz];exact gb.out.alloc gb.out.size _
   have ay:Hid (ar.heap[D]?=some (.cells #[.int .i64 0,.int .i64 0,.int .i64 0,.int .i64 0,.int .i64 0] 197 (0,0))):=by show _=_;rw[<- hwz,<- hD];exact hNq _ _
   have eX:Hid (w4.heap.size<=D):=by have:=gb.out.size;show _<=_;omega
   refine⟨aV.out _ b9.out,hK _ _ ?_⟩;clear hK K hwz hD;have c0:ar.cell? ⟨D,0,none⟩=some (.int .i64 0):=by rw[cR ar _ 0 _ _ _ ay.out];rfl
   have f0:ar.frozen? ⟨D,0,none⟩=false:=by simp[World.frozen?,ay.out]
   have c1:ar.cell? ⟨D,1,none⟩=some (.int .i64 0):=by rw[cR ar _ 1 _ _ _ ay.out];rfl
   have f1:ar.frozen? ⟨D,1,none⟩=false:=by simp[World.frozen?,ay.out]
   have c2:ar.cell? ⟨D,2,none⟩=some (.int .i64 0):=by rw[cR ar _ 2 _ _ _ ay.out];rfl
   have f2:ar.frozen? ⟨D,2,none⟩=false:=by simp[World.frozen?,ay.out]
   have c3:ar.cell? ⟨D,3,none⟩=some (.int .i64 0):=by rw[cR ar _ 3 _ _ _ ay.out];rfl
   have f3:ar.frozen? ⟨D,3,none⟩=false:=by simp[World.frozen?,ay.out]
   have c4:ar.cell? ⟨D,4,none⟩=some (.int .i64 0):=by rw[cR ar _ 4 _ _ _ ay.out];rfl
   have f4:ar.frozen? ⟨D,4,none⟩=false:=by simp[World.frozen?,ay.out]
   have HX:=hDq (nH ay.out x0 x1 x2 x3 x4);have aS:=hDq (AJ b9.out eX.out (.int .i64 x0) (.int .i64 x1) (.int .i64 x2) (.int .i64 x3) (.int .i64 x4));refine b_ rfl (fun K hK=>?_);refine⟨by rfl,?_⟩;unfold aR;go_simp;refine⟨aV.out _ aS.out,hK _ _ ?_⟩;clear hK K ay c0 c1 c2 c3 c4 f0 f1 f2 f3 f4;generalize (((((ar.setCell ⟨D,0,none⟩ (.int .i64 x0)).setCell ⟨D,1,none⟩ (.int .i64 x1)).setCell ⟨D,2,none⟩ (.int .i64 x2)).setCell ⟨D,3,none⟩ (.int .i64 x3)).setCell ⟨D,4,none⟩ (.int .i64 x4))=aj at *;refine cF rfl (fun K hK=>?_);refine⟨by rfl,?_⟩;unfold aI;go_simp;refine hK _ ?_;clear hK K;refine kD ?_;exact⟨D,rfl,HX.out,eX.out,aS.out⟩
  case refine_2 =>
   refine b_ rfl (fun K hK=>?_);refine⟨by rfl,?_⟩;unfold aR;go_simp;obtain⟨D,hD⟩:∃ D,w4.heap.size=D:=⟨_,rfl⟩;obtain⟨iL,hwz⟩:∃ ar,w4.alloc (.cells #[.int .i64 0,.int .i64 0,.int .i64 0,.int .i64 0,.int .i64 0] 197)=ar:=⟨_,rfl⟩;rw[hD,hwz];have dU:Hid (Below w4.heap.size w4 iL):=by show Below _ _ _;rw[<- hwz];exact fI.out.alloc fI.out.size _
   have oW:Hid (iL.heap[D]?=some (.cells #[.int .i64 0,.int .i64 0,.int .i64 0,.int .i64 0,.int .i64 0] 197 (0,0))):=by show _=_;rw[<- hwz,<- hD];exact hNq _ _
   have eX:Hid (w4.heap.size<=D):=by have:=fI.out.size;show _<=_;omega
   refine⟨aV.out _ dU.out,hK _ _ ?_⟩;clear hK K hwz hD;refine b_ rfl (fun K hK=>?_);refine⟨by rfl,?_⟩;unfold aR;go_simp;refine(je.out _ dU.out).mono ?_;rintro e ar ⟨rfl,hbc⟩;have b9:=hDq (dU.out.trans (hbc.mono dU.out.size));have ay:Hid (ar.heap[D]?=some (.cells #[.int .i64 0,.int .i64 0,.int .i64 0,.int .i64 0,.int .i64 0] 197 (0,0))):=by show _=_;rw[hbc.block _ (lBq oW.out)];exact oW.out
   refine⟨_,rfl,aV.out _ b9.out,hK _ _ ?_⟩;clear hK K hbc
   iterate 3 (refine cF rfl (fun K hK=>?_);refine⟨by rfl,?_⟩;unfold aI;go_simp;refine hK _ ?_;clear hK K)
   have c0:ar.cell? ⟨D,0,none⟩=some (.int .i64 0):=by rw[cR ar _ 0 _ _ _ ay.out];rfl
   have f0:ar.frozen? ⟨D,0,none⟩=false:=by simp[World.frozen?,ay.out]
   have c1:ar.cell? ⟨D,1,none⟩=some (.int .i64 0):=by rw[cR ar _ 1 _ _ _ ay.out];rfl
   have f1:ar.frozen? ⟨D,1,none⟩=false:=by simp[World.frozen?,ay.out]
   have c2:ar.cell? ⟨D,2,none⟩=some (.int .i64 0):=by rw[cR ar _ 2 _ _ _ ay.out];rfl
   have f2:ar.frozen? ⟨D,2,none⟩=false:=by simp[World.frozen?,ay.out]
   have c3:ar.cell? ⟨D,3,none⟩=some (.int .i64 0):=by rw[cR ar _ 3 _ _ _ ay.out];rfl
   have f3:ar.frozen? ⟨D,3,none⟩=false:=by simp[World.frozen?,ay.out]
   have c4:ar.cell? ⟨D,4,none⟩=some (.int .i64 0):=by rw[cR ar _ 4 _ _ _ ay.out];rfl
   have f4:ar.frozen? ⟨D,4,none⟩=false:=by simp[World.frozen?,ay.out]
   have HX:=hDq (nH ay.out x0 x1 x2 x3 x4);have aS:=hDq (AJ b9.out eX.out (.int .i64 x0) (.int .i64 x1) (.int .i64 x2) (.int .i64 x3) (.int .i64 x4));refine b_ rfl (fun K hK=>?_);refine⟨by rfl,?_⟩;unfold aR;go_simp;refine⟨aV.out _ aS.out,hK _ _ ?_⟩;clear hK K ay c0 c1 c2 c3 c4 f0 f1 f2 f3 f4;generalize (((((ar.setCell ⟨D,0,none⟩ (.int .i64 x0)).setCell ⟨D,1,none⟩ (.int .i64 x1)).setCell ⟨D,2,none⟩ (.int .i64 x2)).setCell ⟨D,3,none⟩ (.int .i64 x3)).setCell ⟨D,4,none⟩ (.int .i64 x4))=aj at *;refine cF rfl (fun K hK=>?_);refine⟨by rfl,?_⟩;unfold aI;go_simp;refine hK _ ?_;clear hK K;refine kD ?_;exact⟨D,rfl,HX.out,eX.out,aS.out⟩
 intro D aj ⟨oX,oY,hb6⟩;have HX:=hDq oX;have eA:=hDq (cG.out.later hb6);have d_:=hDq (cY.out.below hb6);have bu:Hid (aj.heap[R]?=some (.cells #[.int .i64 0,.int .i64 0,.int .i64 0,.int .i64 0,.int .i64 0] 197 (0,0))):=by show _=_;rw[hb6.block _ (lBq bF.out)];exact bF.out
 have hZ:Hid (aj.heap[A]?=some (.cells #[.int .u8 aY,.int .i64 x1,.int .i64 ck,.int .i64 i,.int .i64 asd,.int .i64 bA,.int .i64 aq,.int .i64 x0] 95 (0,0))):=by show _=_;rw[hb6.block _ (lBq gF.out)];exact gF.out
 have HDR:Hid (D≠R):=fun e=>by have:=lBq bF.out;omega
 have qR:=hDq (cG.out.fresh oY);have lO:=hDq (hF.out.fresh HRW.out);clear oX oY hb6 cG cY bF gF je hw4;clear kW Ke eb e3 e7 aV;clear y0 hnx;clear val;clear bZ;have d0:aj.cell? ⟨D,0,none⟩=some (.int .i64 x0):=by rw[cR aj _ 0 _ _ _ HX.out];rfl
 have d1:aj.cell? ⟨D,1,none⟩=some (.int .i64 x1):=by rw[cR aj _ 1 _ _ _ HX.out];rfl
 have d2:aj.cell? ⟨D,2,none⟩=some (.int .i64 x2):=by rw[cR aj _ 2 _ _ _ HX.out];rfl
 have d3:aj.cell? ⟨D,3,none⟩=some (.int .i64 x3):=by rw[cR aj _ 3 _ _ _ HX.out];rfl
 have d4:aj.cell? ⟨D,4,none⟩=some (.int .i64 x4):=by rw[cR aj _ 4 _ _ _ HX.out];rfl
 have a1:aj.cell? ⟨A,1,none⟩=some (.int .i64 x1):=by rw[cR aj _ 1 _ _ _ hZ.out];rfl
 have a3:aj.cell? ⟨A,3,none⟩=some (.int .i64 i):=by rw[cR aj _ 3 _ _ _ hZ.out];rfl
 have jS:(x1 != x1)=false:=by simp
 go_wp2_with fail
 refine(pY.out aj eA.out).mono ?_;rintro e bh ⟨rfl,v7,AU,oZ⟩;have fG:Hid (bh.heap[R]?=some (.cells #[.int .i64 0,.int .i64 0,.int .i64 0,.int .i64 0,.int .i64 0] 197 (0,0))):=by show _=_;rw[oZ.keep R (lBq bu.out) lO.out.2.1 lO.out.2.2];exact bu.out
 have lQ:Hid (bh.heap[D]?=some (.cells #[.int .i64 x0,.int .i64 x1,.int .i64 x2,.int .i64 x3,.int .i64 x4] 197 (0,0))):=by show _=_;rw[oZ.keep D (lBq HX.out) qR.out.2.1 qR.out.2.2];exact HX.out
 have j5:=hDq AU;have lf:=hDq (d_.out.trans oZ);have adI:Hid (∀ j,j<3->R≠I j∧R≠b j∧(v7 j).ownBlock≠some R):=fun j hj=>⟨(lO.out.2.2 j hj).1,(lO.out.2.2 j hj).2.1,fun e=>by
  rcases oZ.new j hj R e with h1 | h1
  ·exact(lO.out.2.2 j hj).2.2 h1
  ·have:=lBq bu.out;omega⟩
 clear d0 d1 d2 d3 d4 a1 a3 AU oZ HX eA d_ bu hZ pY jS;have d0:bh.cell? ⟨D,0,none⟩=some (.int .i64 x0):=by rw[cR bh _ 0 _ _ _ lQ.out];rfl
 have d1:bh.cell? ⟨D,1,none⟩=some (.int .i64 x1):=by rw[cR bh _ 1 _ _ _ lQ.out];rfl
 have d2:bh.cell? ⟨D,2,none⟩=some (.int .i64 x2):=by rw[cR bh _ 2 _ _ _ lQ.out];rfl
 have d3:bh.cell? ⟨D,3,none⟩=some (.int .i64 x3):=by rw[cR bh _ 3 _ _ _ lQ.out];rfl
 have d4:bh.cell? ⟨D,4,none⟩=some (.int .i64 x4):=by rw[cR bh _ 4 _ _ _ lQ.out];rfl
 have r0:bh.cell? ⟨R,0,none⟩=some (.int .i64 0):=by rw[cR bh _ 0 _ _ _ fG.out];rfl
 have q0:bh.frozen? ⟨R,0,none⟩=false:=by simp[World.frozen?,fG.out]
 have r1:bh.cell? ⟨R,1,none⟩=some (.int .i64 0):=by rw[cR bh _ 1 _ _ _ fG.out];rfl
 have q1:bh.frozen? ⟨R,1,none⟩=false:=by simp[World.frozen?,fG.out]
 have r2:bh.cell? ⟨R,2,none⟩=some (.int .i64 0):=by rw[cR bh _ 2 _ _ _ fG.out];rfl
 have q2:bh.frozen? ⟨R,2,none⟩=false:=by simp[World.frozen?,fG.out]
 have r3:bh.cell? ⟨R,3,none⟩=some (.int .i64 0):=by rw[cR bh _ 3 _ _ _ fG.out];rfl
 have q3:bh.frozen? ⟨R,3,none⟩=false:=by simp[World.frozen?,fG.out]
 have r4:bh.cell? ⟨R,4,none⟩=some (.int .i64 0):=by rw[cR bh _ 4 _ _ _ fG.out];rfl
 have q4:bh.frozen? ⟨R,4,none⟩=false:=by simp[World.frozen?,fG.out]
 simp only[];go_wp2;have eD:=nH fG.out x0 x1 x2 x3 x4;have bB:=vu bh R (.int .i64 x0) (.int .i64 x1) (.int .i64 x2) (.int .i64 x3) (.int .i64 x4);have vv:=j5.out.aside lO.out.1 lO.out.2.1 adI.out (lTq hF.out.dv.size HRW.out) bB;have j4:=lf.out.newer bB HRW.out;clear bB;generalize (((((bh.setCell ⟨R,0,none⟩ (.int .i64 x0)).setCell ⟨R,1,none⟩ (.int .i64 x1)).setCell ⟨R,2,none⟩ (.int .i64 x2)).setCell ⟨R,3,none⟩ (.int .i64 x3)).setCell ⟨R,4,none⟩ (.int .i64 x4))=Wf at *;have z0:Wf.cell? ⟨R,0,none⟩=some (.int .i64 x0):=by rw[cR Wf _ 0 _ _ _ eD];rfl
 have cK:Wf.cell? ⟨R,1,none⟩=some (.int .i64 x1):=by rw[cR Wf _ 1 _ _ _ eD];rfl
 have z2:Wf.cell? ⟨R,2,none⟩=some (.int .i64 x2):=by rw[cR Wf _ 2 _ _ _ eD];rfl
 have z3:Wf.cell? ⟨R,3,none⟩=some (.int .i64 x3):=by rw[cR Wf _ 3 _ _ _ eD];rfl
 have z4:Wf.cell? ⟨R,4,none⟩=some (.int .i64 x4):=by rw[cR Wf _ 4 _ _ _ eD];rfl
 exact bodyPost_ret (v:=.tuple #[.agg #[.int .i64 x0,.int .i64 x1,.int .i64 x2,.int .i64 x3,.int .i64 x4],.nilIface]) (by simp[results,Tryz.results217,go_sem,z0,cK,z2,z3,z4]) rfl ⟨rfl,v7,vv,j4⟩
theorem adJ (a:Ask) (hF:aU w W F P I b v L pf n wd h) (he:dR w ev) (hok:Fs.dO L pf) :
  Calls Tryz.prog 217 #[.pointer (some ⟨F,0,none⟩),cr a] W fun e W'=>e=.returned (.tuple #[bJ (Fl.fy L a),cw ev (Fl.cW L pf a)])∧∃ v',aU w W' F P I b v' (Fl.dZ L a) (Fl.jE L pf a) n wd h∧bC W W' P I b v v':=by
 by_cases hk:Fl.fH a 99=0
 ·cases hm:Fl.mine L a with
  | true=>exact adH a hF he hok hk hm
  | false=>exact adG a hF he hok hk hm
 ·exact adE a hF he hk
end
end Go.Proofs.YtjolccidheflpaaGreatDoor
namespace Go.Proofs.YtjolccidheflpaaGreatDoor
set_option maxHeartbeats 8000000
namespace Fl
open Cv Bk Ra Pu Fu Fs
structure Fits (cash stock:Int):Prop where
 c0:0<=cash
 c1:cash<=1073741824
 s0:0<=stock
 s1:stock<=100000
theorem AA {cash stock:Int}:∀ k j,k*8<=j->jY cash stock k j=0
 | 0,_,_=>rfl
 | k+1,j,h=>by
  have ih:=AA (cash:=cash) (stock:=stock) k j (by omega);show iC _ _ j=0;unfold iC;split
  ·rw[dr _ _ (by show j≠(k:Int).toNat*8+4;omega),dr _ _ (by show j≠(k:Int).toNat*8+3;omega),dr _ _ (by show j≠(k:Int).toNat*8+2;omega),dr _ _ (by show j≠(k:Int).toNat*8;omega),ih]
  ·exact ih
theorem R9 {cash stock:Int} (h:Fits cash stock) (k:Nat) (hk:k<6):jd (jY cash stock k) ⟨k,cash,stock,stock,stock⟩=0:=by
 have e0:=AA (cash:=cash) (stock:=stock) k (k*8) (lRq _);have e2:=AA (cash:=cash) (stock:=stock) k (k*8+2) (by omega);have e3:=AA (cash:=cash) (stock:=stock) k (k*8+3) (by omega);have e4:=AA (cash:=cash) (stock:=stock) k (k*8+4) (by omega);have hc0:=h.c0;have hc1:=h.c1;have hs0:=h.s0;have hs1:=h.s1;unfold jd;rw[if_pos,if_neg]
 ·simp only[eW.over,Int.toNat_natCast,e0,e2,e3,e4]
  simp;omega
 ·simp only[eW.fine,eW.neg,ah.aC]
  simp;omega
theorem R_ {cash stock:Int}:∀ k j,xR j->jY cash stock k j=0
 | 0,_,_=>rfl
 | k+1,j,h=>by
  have ih:=R_ (cash:=cash) (stock:=stock) k j h;obtain⟨c,hc,k_⟩:=h;show iC _ _ j=0;unfold iC;split
  ·rw[dr _ _ (by show j≠(k:Int).toNat*8+4;rcases k_ with e | ⟨m,hm,e⟩ <;> omega),dr _ _ (by show j≠(k:Int).toNat*8+3;rcases k_ with e | ⟨m,hm,e⟩ <;> omega),dr _ _ (by show j≠(k:Int).toNat*8+2;rcases k_ with e | ⟨m,hm,e⟩ <;> omega),dr _ _ (by show j≠(k:Int).toNat*8;rcases k_ with e | ⟨m,hm,e⟩ <;> omega),ih]
  ·exact ih
theorem Sb {cash stock:Int} (h:Fits cash stock):∀ k,k<=6->dP (jY cash stock k) 6=k*cash∧∀ j,j<3->dQ (jY cash stock k) j 6=k*stock
 | 0,_=>⟨by simp[jY,dP],fun j _=>by simp[jY,dQ]⟩
 | k+1,hk=>by
  obtain⟨h1,h2⟩:=Sb h k (by omega);obtain⟨g1,g2⟩:=adz (R9 h k (by omega));have ec:((k+1:Nat):Int)*cash=k*cash+cash:=by rw[show ((k+1:Nat):Int)=(k:Int)+1 by omega,Int.add_mul,Int.one_mul]
  have es:((k+1:Nat):Int)*stock=k*stock+stock:=by rw[show ((k+1:Nat):Int)=(k:Int)+1 by omega,Int.add_mul,Int.one_mul]
  refine⟨by show dP (iC _ _) 6=_;rw[g1,h1,ec],fun j hj=>?_⟩;show dQ (iC _ _) j 6=_;rw[g2 j hj,h2 j hj,es];have:j=0∨j=1∨j=2:=by omega
  rcases this with rfl | rfl | rfl <;> rfl
theorem Sc {wd h ref cash stock:Int} (hr:aO.iz wd h=true) (hf:ah.aC ref 1 1000=true) (H:Fits cash stock):d6 (fun _=>[]) (jY cash stock 6) (sY ref) wd h:=by
 obtain⟨g1,g2⟩:=Sb H 6 (lRq _);have hc1:=H.c1;have hs1:=H.s1;refine⟨⟨fun _ _=>Bk.abG,J9 cash stock 6,adA _ fun j hj=>R_ 6 j hj,by rw[g1];omega,fun k hk=>by rw[g2 k hk];omega⟩,fun i hi=>?_,hr⟩;unfold aO.kz sY;rw[if_pos (by omega),if_neg (by omega),hf];rfl
end Fl
end Go.Proofs.YtjolccidheflpaaGreatDoor
namespace Go.Proofs.YtjolccidheflpaaGreatDoor
set_option maxHeartbeats 8000000
open Go.RowKit
set_option maxRecDepth 100000
section
variable {ev:Nat->Value}
end
section
variable {ev:Nat->Value}
def ad6 (w w':World) (e:Ending) (wd h ref cash stock:Int):Prop:=∃ F P I b,e=.returned (.tuple #[.pointer (some ⟨F,0,none⟩),.nilIface])∧aU w w' F P I b (fun _=>.slice none 0 0) (fun _=>[]) (Fl.jY cash stock 6) (Fl.sY ref) wd h
theorem ad7 (wd h ref cash stock:Int) (w:World) (he:Hid (dR w ev)) (hr:Hid (aO.iz wd h=true)) (hf:Hid (ah.aC ref 1 1000=true)) (H:Hid (Fl.Fits cash stock)) :
  Calls Tryz.prog 95 #[dx wd h,.int .i64 ref,.int .i64 cash,.int .i64 stock] w fun e w'=>ad6 w w' e wd h ref cash stock:=by
 have hb0:Below w.heap.size w (w.alloc (.cells #[.int .i64 wd,.int .i64 h] 43)):=(bRq _ _).alloc (lRq _) _;have kZ:=QA wd h 412 (ev 1) (w.alloc (.cells #[.int .i64 wd,.int .i64 h] 43)) (he.out.below hb0).KA;rw[hr.out,show kT 412 (ev 1) true=.nilIface from rfl]at kZ;have o7:=hDq kZ;have bD:=hDq hb0;have SN:(w.alloc (.cells #[.int .i64 wd,.int .i64 h] 43)).heap[w.heap.size]?=some (.cells #[.int .i64 wd,.int .i64 h] 43 (0,0)):=hNq _ _;have KF:=hDq SN;clear hb0 kZ SN;unfold dx at o7 ⊢;have HW1:=hDq (fun W=>fY ref 1 1000 W);have HW2:=hDq (fun W=>fY cash 0 1073741824 W);have HW3:=hDq (fun W=>fY stock 0 100000 W);have e1:ah.aC cash 0 1073741824=true:=by have:=H.out.c0;have:=H.out.c1;simp[ah.aC];omega
 have e2:ah.aC stock 0 100000=true:=by have:=H.out.s0;have:=H.out.s1;simp[ah.aC];omega
 rw[hf.out]at HW1;rw[e1]at HW2;rw[e2]at HW3;clear e1 e2;go_enter Tryz.func95,Tryz.ntmps95
 go_wp2_with fail
 refine o7.out.mono ?_;rintro e w2 ⟨rfl,hb2⟩;have iN:=hDq (bD.out.trans (hb2.mono bD.out.size));have yf:Hid (w2.heap[w.heap.size]?=some (.cells #[.int .i64 wd,.int .i64 h] 43 (0,0))):=by show _=_;rw[hb2.block _ (lBq KF.out)];exact KF.out
 clear hb2 bD KF o7;obtain⟨qd,Er⟩:∃ qd,w.heap.size=qd:=⟨_,rfl⟩;rw[Er]at yf;rw[Er];have iK:=hDq Er;clear Er;simp only[]
 go_wp2_with fail
 refine(HW1.out _).mono ?_;rintro e w2 ⟨rfl,rfl⟩;simp only[]
 go_wp2_with fail
 refine(HW2.out _).mono ?_;rintro e w2 ⟨rfl,rfl⟩;simp only[]
 go_wp2_with fail
 refine(HW3.out _).mono ?_;rintro e w2 ⟨rfl,rfl⟩;clear HW1 HW2 HW3;simp only[]
 go_wp2_with fail
 obtain⟨bZ,val,hcl,aW⟩:=AQ qd qd qd (.cells #[.int .i64 wd,.int .i64 h] 43 (0,0)) (.cells #[.int .i64 wd,.int .i64 h] 43 (0,0)) (.cells #[.int .i64 wd,.int .i64 h] 43 (0,0));have aV:=hDq aW;obtain⟨y0,kW⟩:=aW w2.drew ⟨yf.out,yf.out,yf.out⟩;have hnx:Nonempty bZ:=⟨y0⟩;have u0:∀ x,(val x).cell? ⟨qd,0,none⟩=some (.int .i64 wd):=fun x=>by rw[cR _ _ _ _ _ _ (hcl x).1];rfl
 have u1:∀ x,(val x).cell? ⟨qd,1,none⟩=some (.int .i64 h):=fun x=>by rw[cR _ _ _ _ _ _ (hcl x).1];rfl
 clear aW hcl;have hbd:Below w2.heap.size w2 w2.drew:=⟨rfl,rfl,rfl,lRq _,fun _ _=>rfl⟩;have qf:=hDq (iN.out.trans (hbd.mono iN.out.size));have KG:Hid (w2.drew.heap[qd]?=some (.cells #[.int .i64 wd,.int .i64 h] 43 (0,0))):=yf.out;clear hbd iN yf;refine AF (val:=val) (.read 0 (.one 1 (.read 2 (.one 3 (.read 4 .done))))) (by kernel_rfl) (by kernel_rfl) y0 kW ?_;rw[kW];clear kW;generalize w2.drew=w3 at *;refine cF rfl (fun K hK=>?_);refine⟨by rfl,?_⟩;unfold aI;go_simp;refine hK _ ?_;clear hK K;refine b_ rfl (fun K hK=>?_);refine⟨by rfl,?_⟩;unfold aR;go_simp;refine(ad8 _).mono ?_;rintro e w4 ⟨rfl,hw4⟩;have hbc:Below w3.heap.size w3 w4:=by rw[hw4];exact(bRq _ _).alloc (lRq _) _
 obtain⟨P,hP⟩:∃ P,w3.heap.size=P:=⟨_,rfl⟩;have mI:Hid (w4.heap[P]?=some (.cells (bU fun _=>0) 213 (0,0))):=by show _=_;rw[hw4,<- hP];exact hNq _ _
 have yg:Hid (w4.heap[qd]?=some (.cells #[.int .i64 wd,.int .i64 h] 43 (0,0))):=by show _=_;rw[hbc.block _ (lBq KG.out)];exact KG.out
 have kH:=hDq (qf.out.trans (hbc.mono qf.out.size));have ad9:Hid (w.heap.size<=P):=by have:=qf.out.size;show _<=_;omega
 refine⟨_,rfl,aV.out _ ⟨yg.out,yg.out,yg.out⟩,hK _ _ ?_⟩;rw[hP];clear hK K hbc hw4 hP qf KG;refine cF rfl (fun K hK=>?_);refine⟨by rfl,?_⟩;unfold aI;go_simp;refine hK _ ?_;clear hK K;refine b_ rfl (fun K hK=>?_);refine⟨by rfl,?_⟩;unfold aR;go_simp;obtain⟨F,hF⟩:∃ F,w4.heap.size=F:=⟨_,rfl⟩;obtain⟨aQ,s9⟩:∃ x,w4.alloc (.cells #[.int .i64 wd,.int .i64 h,.pointer none,.pointer none,.pointer none,.pointer (some ⟨P,0,none⟩)] 210)=x:=⟨_,rfl⟩;have hbc:Below w4.heap.size w4 aQ:=by rw[<- s9];exact(bRq _ _).alloc (lRq _) _
 have jg:Hid (aQ.heap[F]?=some (.cells #[.int .i64 wd,.int .i64 h,.pointer none,.pointer none,.pointer none,.pointer (some ⟨P,0,none⟩)] 210 (0,0))):=by show _=_;rw[<- s9,<- hF];exact hNq _ _
 have mJ:Hid (aQ.heap[P]?=some (.cells (bU fun _=>0) 213 (0,0))):=by show _=_;rw[hbc.block _ (lBq mI.out)];exact mI.out
 have Es:Hid (aQ.heap[qd]?=some (.cells #[.int .i64 wd,.int .i64 h] 43 (0,0))):=by show _=_;rw[hbc.block _ (lBq yg.out)];exact yg.out
 have Et:=hDq (kH.out.trans (hbc.mono kH.out.size));have Eu:Hid (w.heap.size<=F):=by have:=kH.out.size;show _<=_;omega
 rw[hF,s9];refine⟨aV.out _ ⟨Es.out,Es.out,Es.out⟩,hK _ _ ?_⟩;clear hK K hbc s9 hF kH mI yg;refine cF rfl (fun K hK=>?_);refine⟨by rfl,?_⟩;unfold aI;go_simp;refine hK _ ?_;clear hK K;refine kD ?_;clear u0 u1 aV;clear y0 hnx;clear val;clear bZ;obtain⟨S,hS⟩:∃ S,aQ.heap.size=S:=⟨_,rfl⟩;obtain⟨lR,jf⟩:∃ x,aQ.alloc (.cells #[.int .i64 0,.int .i64 0,.int .i64 0] 138)=x:=⟨_,rfl⟩;have hbc:Below aQ.heap.size aQ lR:=by rw[<- jf];exact(bRq _ _).alloc (lRq _) _
 have KH:Hid (lR.heap[S]?=some (.cells #[.int .i64 0,.int .i64 0,.int .i64 0] 138 (0,0))):=by show _=_;rw[<- jf,<- hS];exact hNq _ _
 have KI:Hid (lR.heap[F]?=some (.cells #[.int .i64 wd,.int .i64 h,.pointer none,.pointer none,.pointer none,.pointer (some ⟨P,0,none⟩)] 210 (0,0))):=by show _=_;rw[hbc.block _ (lBq jg.out)];exact jg.out
 have KJ:Hid (lR.heap[P]?=some (.cells (bU fun _=>0) 213 (0,0))):=by show _=_;rw[hbc.block _ (lBq mJ.out)];exact mJ.out
 have KL:=hDq (Et.out.trans (hbc.mono Et.out.size));have jT:Hid (w.heap.size<=S):=by have:=Et.out.size;show _<=_;omega
 have AY:=hDq jf;have En:=hDq hS;clear hbc jf hS Et jg mJ Es;go_wp2;rw[AY.out,En.out];clear AY En;refine wp_loop_rounds 4 ?_;rw[rounds_succ]
 go_wp2_with fail
 have hnx:Nonempty World:=⟨lR⟩;refine AF (X:=World) (val:=fun x=>x) (.read 0 (.read 1 (.read 3 (.read 4 (.read 7 (.read 8 (.one 2 (.read 5 (.one 6 (.read 9 (.one 10 .done))))))))))) (by kernel_rfl) (by kernel_rfl) lR.drew rfl ?_;have hbd:Below lR.heap.size lR lR.drew:=⟨rfl,rfl,rfl,lRq _,fun _ _=>rfl⟩;have Ev:Hid (lR.drew.heap[F]?=some (.cells #[.int .i64 wd,.int .i64 h,.pointer none,.pointer none,.pointer none,.pointer (some ⟨P,0,none⟩)] 210 (0,0))):=by show _=_;rw[hbd.block _ (lBq KI.out)];exact KI.out
 have Ew:Hid (lR.drew.heap[S]?=some (.cells #[.int .i64 0,.int .i64 0,.int .i64 0] 138 (0,0))):=by show _=_;rw[hbd.block _ (lBq KH.out)];exact KH.out
 have Ex:Hid (lR.drew.heap[P]?=some (.cells (bU fun _=>0) 213 (0,0))):=by show _=_;rw[hbd.block _ (lBq KJ.out)];exact KJ.out
 have Ey:=hDq (KL.out.trans (hbd.mono KL.out.size));clear hbd KI KH KJ KL;show kC _ _ _ _ _ _ lR.drew;generalize lR.drew=KM at *
 iterate 6 (refine cF rfl (fun K hK=>?_);refine⟨by rfl,?_⟩;unfold aI;go_simp;refine hK _ ?_;clear hK K)
 refine b_ rfl (fun K hK=>?_);refine⟨by rfl,?_⟩;unfold aR;go_simp;refine(JD _).mono ?_;rintro e qV ⟨rfl,hwc⟩;have hbc:Below KM.heap.size KM qV:=by rw[hwc];exact(bRq _ _).alloc (lRq _) _
 obtain⟨B0,hB0⟩:∃ B,KM.heap.size=B:=⟨_,rfl⟩;have KN:Hid (qV.heap[B0]?=some (.cells #[.slice none 0 0] 276 (0,0))):=by show _=_;rw[hwc,<- hB0];exact hNq _ _
 have Ez:Hid (qV.heap[F]?=some (.cells #[.int .i64 wd,.int .i64 h,.pointer none,.pointer none,.pointer none,.pointer (some ⟨P,0,none⟩)] 210 (0,0))):=by show _=_;rw[hbc.block _ (lBq Ev.out)];exact Ev.out
 have EA:Hid (qV.heap[S]?=some (.cells #[.int .i64 0,.int .i64 0,.int .i64 0] 138 (0,0))):=by show _=_;rw[hbc.block _ (lBq Ew.out)];exact Ew.out
 have KO:Hid (qV.heap[P]?=some (.cells (bU fun _=>0) 213 (0,0))):=by show _=_;rw[hbc.block _ (lBq Ex.out)];exact Ex.out
 have EB:=hDq (Ey.out.trans (hbc.mono Ey.out.size));have SQ:Hid (w.heap.size<=B0):=by have:=Ey.out.size;show _<=_;omega
 refine⟨_,rfl,hK _ _ ?_⟩;rw[hB0];have aea:Hid (B0≠F∧B0≠S∧B0≠P):=by
  have l1:=lBq Ev.out;have l2:=lBq Ew.out;have l3:=lBq Ex.out;refine⟨by omega,by omega,by omega⟩
 clear hK K hbc hwc hB0 Ev Ew Ex Ey;refine cF rfl (fun K hK=>?_);refine⟨by rfl,?_⟩;unfold aI;go_simp;refine hK _ ?_;clear hK K;refine b_ rfl (fun K hK=>?_);refine⟨by rfl,?_⟩;unfold aR;go_simp;obtain⟨ej,nK⟩:∃ I,qV.heap.size=I:=⟨_,rfl⟩;obtain⟨o8,hwd⟩:∃ x,qV.alloc (.cells #[.pointer (some ⟨B0,0,none⟩),.int .i64 ref,.int .i64 0] 267)=x:=⟨_,rfl⟩;have hbd:Below qV.heap.size qV o8:=by rw[<- hwd];exact(bRq _ _).alloc (lRq _) _
 have EC:Hid (o8.heap[ej]?=some (.cells #[.pointer (some ⟨B0,0,none⟩),.int .i64 ref,.int .i64 0] 267 (0,0))):=by show _=_;rw[<- hwd,<- nK];exact hNq _ _
 rw[nK,hwd];have qW:Hid (o8.heap[F]?=some (.cells #[.int .i64 wd,.int .i64 h,.pointer none,.pointer none,.pointer none,.pointer (some ⟨P,0,none⟩)] 210 (0,0))):=by show _=_;rw[hbd.block _ (lBq Ez.out)];exact Ez.out
 have ED:Hid (o8.heap[S]?=some (.cells #[.int .i64 0,.int .i64 0,.int .i64 0] 138 (0,0))):=by show _=_;rw[hbd.block _ (lBq EA.out)];exact EA.out
 have EE:Hid (o8.heap[P]?=some (.cells (bU fun _=>0) 213 (0,0))):=by show _=_;rw[hbd.block _ (lBq KO.out)];exact KO.out
 have EF:Hid (o8.heap[B0]?=some (.cells #[.slice none 0 0] 276 (0,0))):=by show _=_;rw[hbd.block _ (lBq KN.out)];exact KN.out
 have KP:=hDq (EB.out.trans (hbd.mono EB.out.size));have SR:Hid (w.heap.size<=ej):=by have:=EB.out.size;show _<=_;omega
 have aeb:Hid (ej≠F∧ej≠S):=by
  have l1:=lBq Ez.out;have l2:=lBq EA.out;refine⟨by omega,by omega⟩
 refine hK _ _ ?_;clear hK K hbd hwd nK Ez EA KO KN EB;refine cF rfl (fun K hK=>?_);refine⟨by rfl,?_⟩;unfold aI;go_simp;refine hK _ ?_;clear hK K;have c0:o8.cell? ⟨F,2,none⟩=some (.pointer none):=by rw[cR o8 _ 2 _ _ _ qW.out];rfl
 have f0:o8.frozen? ⟨F,2,none⟩=false:=by simp[World.frozen?,qW.out]
 obtain⟨o9,lh⟩:∃ x,o8.setCell ⟨F,2,none⟩ (.pointer (some ⟨ej,0,none⟩))=x:=⟨_,rfl⟩;have bB:aH o8 o9 F:=by rw[<- lh];exact aH.setCell _ _ _ _
 have EG:Hid (o9.heap[F]?=some (.cells #[.int .i64 wd,.int .i64 h,.pointer (some ⟨ej,0,none⟩),.pointer none,.pointer none,.pointer (some ⟨P,0,none⟩)] 210 (0,0))):=by show _=_;rw[<- lh,setCell_eq_setRow _ F 2 _ _ _ _ qW.out];exact setRow_heap _ F _ _ _ _ qW.out
 have qX:Hid (o9.heap[S]?=some (.cells #[.int .i64 0,.int .i64 0,.int .i64 0] 138 (0,0))):=by show _=_;rw[bB.block _ (lBq ED.out) (aA ED.out qW.out (by decide))];exact ED.out
 have EH:Hid (o9.heap[P]?=some (.cells (bU fun _=>0) 213 (0,0))):=by show _=_;rw[bB.block _ (lBq EE.out) (aA EE.out qW.out (by decide))];exact EE.out
 have EI:Hid (o9.heap[B0]?=some (.cells #[.slice none 0 0] 276 (0,0))):=by show _=_;rw[bB.block _ (lBq EF.out) (aA EF.out qW.out (by decide))];exact EF.out
 have EJ:Hid (o9.heap[ej]?=some (.cells #[.pointer (some ⟨B0,0,none⟩),.int .i64 ref,.int .i64 0] 267 (0,0))):=by show _=_;rw[bB.block _ (lBq EC.out) (aA EC.out qW.out (by decide))];exact EC.out
 have KQ:=hDq (KP.out.trans (bB.below KP.out.size Eu.out));have tj:=hDq lh;clear lh;refine b_ rfl (fun K hK=>?_);refine⟨by rfl,?_⟩;unfold aR;go_simp;rw[tj.out];refine hK _ _ ?_;clear hK K c0 f0 bB tj hnx qW ED EE EF EC KP;refine kD ?_;have c0:o9.cell? ⟨S,0,none⟩=some (.int .i64 0):=by rw[cR o9 _ 0 _ _ _ qX.out];rfl
 have f0:o9.frozen? ⟨S,0,none⟩=false:=by simp[World.frozen?,qX.out]
 obtain⟨jF,hwf⟩:∃ x,o9.setCell ⟨S,0,none⟩ (.int .i64 stock)=x:=⟨_,rfl⟩;have bB:aH o9 jF S:=by rw[<- hwf];exact aH.setCell _ _ _ _
 have KR:Hid (jF.heap[S]?=some (.cells #[.int .i64 stock,.int .i64 0,.int .i64 0] 138 (0,0))):=by show _=_;rw[<- hwf,setCell_eq_setRow _ S 0 _ _ _ _ qX.out];exact setRow_heap _ S _ _ _ _ qX.out
 have KS:Hid (jF.heap[F]?=some (.cells #[.int .i64 wd,.int .i64 h,.pointer (some ⟨ej,0,none⟩),.pointer none,.pointer none,.pointer (some ⟨P,0,none⟩)] 210 (0,0))):=by show _=_;rw[bB.block _ (lBq EG.out) (aA EG.out qX.out (by decide))];exact EG.out
 have KT:Hid (jF.heap[P]?=some (.cells (bU fun _=>0) 213 (0,0))):=by show _=_;rw[bB.block _ (lBq EH.out) (aA EH.out qX.out (by decide))];exact EH.out
 have KU:Hid (jF.heap[ej]?=some (.cells #[.pointer (some ⟨B0,0,none⟩),.int .i64 ref,.int .i64 0] 267 (0,0))):=by show _=_;rw[bB.block _ (lBq EJ.out) (aA EJ.out qX.out (by decide))];exact EJ.out
 have KV:Hid (jF.heap[B0]?=some (.cells #[.slice none 0 0] 276 (0,0))):=by show _=_;rw[bB.block _ (lBq EI.out) (aA EI.out qX.out (by decide))];exact EI.out
 have KW:=hDq (KQ.out.trans (bB.below KQ.out.size jT.out));have tq:=hDq hwf;clear hwf bB EG EH EJ EI KQ;go_wp2;rw[tq.out];clear c0 f0 tq qX;rw[rounds_succ]
 go_wp2_with fail
 have hnx:Nonempty World:=⟨jF⟩;refine AF (X:=World) (val:=fun x=>x) (.read 0 (.read 1 (.read 3 (.read 4 (.read 7 (.read 8 (.one 2 (.read 5 (.one 6 (.read 9 (.one 10 .done))))))))))) (by kernel_rfl) (by kernel_rfl) jF.drew rfl ?_;have hbd:Below jF.heap.size jF jF.drew:=⟨rfl,rfl,rfl,lRq _,fun _ _=>rfl⟩;have EK:Hid (jF.drew.heap[F]?=some (.cells #[.int .i64 wd,.int .i64 h,.pointer (some ⟨ej,0,none⟩),.pointer none,.pointer none,.pointer (some ⟨P,0,none⟩)] 210 (0,0))):=by show _=_;rw[hbd.block _ (lBq KS.out)];exact KS.out
 have EL:Hid (jF.drew.heap[S]?=some (.cells #[.int .i64 stock,.int .i64 0,.int .i64 0] 138 (0,0))):=by show _=_;rw[hbd.block _ (lBq KR.out)];exact KR.out
 have EM:Hid (jF.drew.heap[P]?=some (.cells (bU fun _=>0) 213 (0,0))):=by show _=_;rw[hbd.block _ (lBq KT.out)];exact KT.out
 have KX:Hid (jF.drew.heap[ej]?=some (.cells #[.pointer (some ⟨B0,0,none⟩),.int .i64 ref,.int .i64 0] 267 (0,0))):=by show _=_;rw[hbd.block _ (lBq KU.out)];exact KU.out
 have EN:Hid (jF.drew.heap[B0]?=some (.cells #[.slice none 0 0] 276 (0,0))):=by show _=_;rw[hbd.block _ (lBq KV.out)];exact KV.out
 have EO:=hDq (KW.out.trans (hbd.mono KW.out.size));clear hbd KS KR KT KU KV KW;show kC _ _ _ _ _ _ jF.drew;generalize jF.drew=KY at *
 iterate 6 (refine cF rfl (fun K hK=>?_);refine⟨by rfl,?_⟩;unfold aI;go_simp;refine hK _ ?_;clear hK K)
 refine b_ rfl (fun K hK=>?_);refine⟨by rfl,?_⟩;unfold aR;go_simp;refine(JD _).mono ?_;rintro e o_ ⟨rfl,hwc⟩;have hbc:Below KY.heap.size KY o_:=by rw[hwc];exact(bRq _ _).alloc (lRq _) _
 obtain⟨B1,oN⟩:∃ B,KY.heap.size=B:=⟨_,rfl⟩;have KZ:Hid (o_.heap[B1]?=some (.cells #[.slice none 0 0] 276 (0,0))):=by show _=_;rw[hwc,<- oN];exact hNq _ _
 have EP:Hid (o_.heap[F]?=some (.cells #[.int .i64 wd,.int .i64 h,.pointer (some ⟨ej,0,none⟩),.pointer none,.pointer none,.pointer (some ⟨P,0,none⟩)] 210 (0,0))):=by show _=_;rw[hbc.block _ (lBq EK.out)];exact EK.out
 have EQ:Hid (o_.heap[S]?=some (.cells #[.int .i64 stock,.int .i64 0,.int .i64 0] 138 (0,0))):=by show _=_;rw[hbc.block _ (lBq EL.out)];exact EL.out
 have K3:Hid (o_.heap[P]?=some (.cells (bU fun _=>0) 213 (0,0))):=by show _=_;rw[hbc.block _ (lBq EM.out)];exact EM.out
 have ER:Hid (o_.heap[ej]?=some (.cells #[.pointer (some ⟨B0,0,none⟩),.int .i64 ref,.int .i64 0] 267 (0,0))):=by show _=_;rw[hbc.block _ (lBq KX.out)];exact KX.out
 have K4:Hid (o_.heap[B0]?=some (.cells #[.slice none 0 0] 276 (0,0))):=by show _=_;rw[hbc.block _ (lBq EN.out)];exact EN.out
 have ES:=hDq (EO.out.trans (hbc.mono EO.out.size));have SS:Hid (w.heap.size<=B1):=by have:=EO.out.size;show _<=_;omega
 refine⟨_,rfl,hK _ _ ?_⟩;rw[oN];have SV:Hid (B1≠F∧B1≠S∧B1≠P∧B1≠B0):=by
  have l1:=lBq EK.out;have l2:=lBq EL.out;have l3:=lBq EM.out;have K5:=lBq EN.out;refine⟨by omega,by omega,by omega,by omega⟩
 clear hK K hbc hwc oN EK EL EM KX EN EO;refine cF rfl (fun K hK=>?_);refine⟨by rfl,?_⟩;unfold aI;go_simp;refine hK _ ?_;clear hK K;refine b_ rfl (fun K hK=>?_);refine⟨by rfl,?_⟩;unfold aR;go_simp;obtain⟨gP,qY⟩:∃ I,o_.heap.size=I:=⟨_,rfl⟩;obtain⟨kU,hwd⟩:∃ x,o_.alloc (.cells #[.pointer (some ⟨B1,0,none⟩),.int .i64 ref,.int .i64 0] 267)=x:=⟨_,rfl⟩;have hbd:Below o_.heap.size o_ kU:=by rw[<- hwd];exact(bRq _ _).alloc (lRq _) _
 have ET:Hid (kU.heap[gP]?=some (.cells #[.pointer (some ⟨B1,0,none⟩),.int .i64 ref,.int .i64 0] 267 (0,0))):=by show _=_;rw[<- hwd,<- qY];exact hNq _ _
 rw[qY,hwd];have pg:Hid (kU.heap[F]?=some (.cells #[.int .i64 wd,.int .i64 h,.pointer (some ⟨ej,0,none⟩),.pointer none,.pointer none,.pointer (some ⟨P,0,none⟩)] 210 (0,0))):=by show _=_;rw[hbd.block _ (lBq EP.out)];exact EP.out
 have EU:Hid (kU.heap[S]?=some (.cells #[.int .i64 stock,.int .i64 0,.int .i64 0] 138 (0,0))):=by show _=_;rw[hbd.block _ (lBq EQ.out)];exact EQ.out
 have EV:Hid (kU.heap[P]?=some (.cells (bU fun _=>0) 213 (0,0))):=by show _=_;rw[hbd.block _ (lBq K3.out)];exact K3.out
 have EW:Hid (kU.heap[ej]?=some (.cells #[.pointer (some ⟨B0,0,none⟩),.int .i64 ref,.int .i64 0] 267 (0,0))):=by show _=_;rw[hbd.block _ (lBq ER.out)];exact ER.out
 have EX:Hid (kU.heap[B0]?=some (.cells #[.slice none 0 0] 276 (0,0))):=by show _=_;rw[hbd.block _ (lBq K4.out)];exact K4.out
 have EY:Hid (kU.heap[B1]?=some (.cells #[.slice none 0 0] 276 (0,0))):=by show _=_;rw[hbd.block _ (lBq KZ.out)];exact KZ.out
 have K6:=hDq (ES.out.trans (hbd.mono ES.out.size));have SX:Hid (w.heap.size<=gP):=by have:=ES.out.size;show _<=_;omega
 have SY:Hid (gP≠F∧gP≠S∧gP≠ej):=by
  have l1:=lBq EP.out;have l2:=lBq EQ.out;have K5:=lBq ER.out;refine⟨by omega,by omega,by omega⟩
 refine hK _ _ ?_;clear hK K hbd hwd qY EP EQ K3 ER K4 KZ ES;refine cF rfl (fun K hK=>?_);refine⟨by rfl,?_⟩;unfold aI;go_simp;refine hK _ ?_;clear hK K;have c0:kU.cell? ⟨F,3,none⟩=some (.pointer none):=by rw[cR kU _ 3 _ _ _ pg.out];rfl
 have f0:kU.frozen? ⟨F,3,none⟩=false:=by simp[World.frozen?,pg.out]
 obtain⟨we1,lh⟩:∃ x,kU.setCell ⟨F,3,none⟩ (.pointer (some ⟨gP,0,none⟩))=x:=⟨_,rfl⟩;have bB:aH kU we1 F:=by rw[<- lh];exact aH.setCell _ _ _ _
 have EZ:Hid (we1.heap[F]?=some (.cells #[.int .i64 wd,.int .i64 h,.pointer (some ⟨ej,0,none⟩),.pointer (some ⟨gP,0,none⟩),.pointer none,.pointer (some ⟨P,0,none⟩)] 210 (0,0))):=by show _=_;rw[<- lh,setCell_eq_setRow _ F 3 _ _ _ _ pg.out];exact setRow_heap _ F _ _ _ _ pg.out
 have pn:Hid (we1.heap[S]?=some (.cells #[.int .i64 stock,.int .i64 0,.int .i64 0] 138 (0,0))):=by show _=_;rw[bB.block _ (lBq EU.out) (aA EU.out pg.out (by decide))];exact EU.out
 have E0:Hid (we1.heap[P]?=some (.cells (bU fun _=>0) 213 (0,0))):=by show _=_;rw[bB.block _ (lBq EV.out) (aA EV.out pg.out (by decide))];exact EV.out
 have E1:Hid (we1.heap[ej]?=some (.cells #[.pointer (some ⟨B0,0,none⟩),.int .i64 ref,.int .i64 0] 267 (0,0))):=by show _=_;rw[bB.block _ (lBq EW.out) (aA EW.out pg.out (by decide))];exact EW.out
 have E3:Hid (we1.heap[B0]?=some (.cells #[.slice none 0 0] 276 (0,0))):=by show _=_;rw[bB.block _ (lBq EX.out) (aA EX.out pg.out (by decide))];exact EX.out
 have E4:Hid (we1.heap[B1]?=some (.cells #[.slice none 0 0] 276 (0,0))):=by show _=_;rw[bB.block _ (lBq EY.out) (aA EY.out pg.out (by decide))];exact EY.out
 have E5:Hid (we1.heap[gP]?=some (.cells #[.pointer (some ⟨B1,0,none⟩),.int .i64 ref,.int .i64 0] 267 (0,0))):=by show _=_;rw[bB.block _ (lBq ET.out) (aA ET.out pg.out (by decide))];exact ET.out
 have K7:=hDq (K6.out.trans (bB.below K6.out.size Eu.out));have tj:=hDq lh;clear lh;refine b_ rfl (fun K hK=>?_);refine⟨by rfl,?_⟩;unfold aR;go_simp;rw[tj.out];refine hK _ _ ?_;clear hK K c0 f0 bB tj hnx pg EU EV EW EX EY ET K6;refine kD ?_;have c0:we1.cell? ⟨S,1,none⟩=some (.int .i64 0):=by rw[cR we1 _ 1 _ _ _ pn.out];rfl
 have f0:we1.frozen? ⟨S,1,none⟩=false:=by simp[World.frozen?,pn.out]
 obtain⟨ia,hwf⟩:∃ x,we1.setCell ⟨S,1,none⟩ (.int .i64 stock)=x:=⟨_,rfl⟩;have bB:aH we1 ia S:=by rw[<- hwf];exact aH.setCell _ _ _ _
 have K8:Hid (ia.heap[S]?=some (.cells #[.int .i64 stock,.int .i64 stock,.int .i64 0] 138 (0,0))):=by show _=_;rw[<- hwf,setCell_eq_setRow _ S 1 _ _ _ _ pn.out];exact setRow_heap _ S _ _ _ _ pn.out
 have K9:Hid (ia.heap[F]?=some (.cells #[.int .i64 wd,.int .i64 h,.pointer (some ⟨ej,0,none⟩),.pointer (some ⟨gP,0,none⟩),.pointer none,.pointer (some ⟨P,0,none⟩)] 210 (0,0))):=by show _=_;rw[bB.block _ (lBq EZ.out) (aA EZ.out pn.out (by decide))];exact EZ.out
 have K_:Hid (ia.heap[P]?=some (.cells (bU fun _=>0) 213 (0,0))):=by show _=_;rw[bB.block _ (lBq E0.out) (aA E0.out pn.out (by decide))];exact E0.out
 have La:Hid (ia.heap[ej]?=some (.cells #[.pointer (some ⟨B0,0,none⟩),.int .i64 ref,.int .i64 0] 267 (0,0))):=by show _=_;rw[bB.block _ (lBq E1.out) (aA E1.out pn.out (by decide))];exact E1.out
 have Lb:Hid (ia.heap[B0]?=some (.cells #[.slice none 0 0] 276 (0,0))):=by show _=_;rw[bB.block _ (lBq E3.out) (aA E3.out pn.out (by decide))];exact E3.out
 have Lc:Hid (ia.heap[gP]?=some (.cells #[.pointer (some ⟨B1,0,none⟩),.int .i64 ref,.int .i64 0] 267 (0,0))):=by show _=_;rw[bB.block _ (lBq E5.out) (aA E5.out pn.out (by decide))];exact E5.out
 have Ld:Hid (ia.heap[B1]?=some (.cells #[.slice none 0 0] 276 (0,0))):=by show _=_;rw[bB.block _ (lBq E4.out) (aA E4.out pn.out (by decide))];exact E4.out
 have Le:=hDq (K7.out.trans (bB.below K7.out.size jT.out));have tq:=hDq hwf;clear hwf bB EZ E0 E1 E3 E5 E4 K7;go_wp2;rw[tq.out];clear c0 f0 tq pn;rw[rounds_succ]
 go_wp2_with fail
 have hnx:Nonempty World:=⟨ia⟩;refine AF (X:=World) (val:=fun x=>x) (.read 0 (.read 1 (.read 3 (.read 4 (.read 7 (.read 8 (.one 2 (.read 5 (.one 6 (.read 9 (.one 10 .done))))))))))) (by kernel_rfl) (by kernel_rfl) ia.drew rfl ?_;have hbd:Below ia.heap.size ia ia.drew:=⟨rfl,rfl,rfl,lRq _,fun _ _=>rfl⟩;have E6:Hid (ia.drew.heap[F]?=some (.cells #[.int .i64 wd,.int .i64 h,.pointer (some ⟨ej,0,none⟩),.pointer (some ⟨gP,0,none⟩),.pointer none,.pointer (some ⟨P,0,none⟩)] 210 (0,0))):=by show _=_;rw[hbd.block _ (lBq K9.out)];exact K9.out
 have E7:Hid (ia.drew.heap[S]?=some (.cells #[.int .i64 stock,.int .i64 stock,.int .i64 0] 138 (0,0))):=by show _=_;rw[hbd.block _ (lBq K8.out)];exact K8.out
 have E8:Hid (ia.drew.heap[P]?=some (.cells (bU fun _=>0) 213 (0,0))):=by show _=_;rw[hbd.block _ (lBq K_.out)];exact K_.out
 have Lf:Hid (ia.drew.heap[ej]?=some (.cells #[.pointer (some ⟨B0,0,none⟩),.int .i64 ref,.int .i64 0] 267 (0,0))):=by show _=_;rw[hbd.block _ (lBq La.out)];exact La.out
 have E9:Hid (ia.drew.heap[B0]?=some (.cells #[.slice none 0 0] 276 (0,0))):=by show _=_;rw[hbd.block _ (lBq Lb.out)];exact Lb.out
 have Lg:Hid (ia.drew.heap[gP]?=some (.cells #[.pointer (some ⟨B1,0,none⟩),.int .i64 ref,.int .i64 0] 267 (0,0))):=by show _=_;rw[hbd.block _ (lBq Lc.out)];exact Lc.out
 have E_:Hid (ia.drew.heap[B1]?=some (.cells #[.slice none 0 0] 276 (0,0))):=by show _=_;rw[hbd.block _ (lBq Ld.out)];exact Ld.out
 have Fa:=hDq (Le.out.trans (hbd.mono Le.out.size));clear hbd K9 K8 K_ La Lb Lc Ld Le;show kC _ _ _ _ _ _ ia.drew;generalize ia.drew=Lh at *
 iterate 6 (refine cF rfl (fun K hK=>?_);refine⟨by rfl,?_⟩;unfold aI;go_simp;refine hK _ ?_;clear hK K)
 refine b_ rfl (fun K hK=>?_);refine⟨by rfl,?_⟩;unfold aR;go_simp;refine(JD _).mono ?_;rintro e mK ⟨rfl,hwc⟩;have hbc:Below Lh.heap.size Lh mK:=by rw[hwc];exact(bRq _ _).alloc (lRq _) _
 obtain⟨B2,ny⟩:∃ B,Lh.heap.size=B:=⟨_,rfl⟩;have Li:Hid (mK.heap[B2]?=some (.cells #[.slice none 0 0] 276 (0,0))):=by show _=_;rw[hwc,<- ny];exact hNq _ _
 have Fb:Hid (mK.heap[F]?=some (.cells #[.int .i64 wd,.int .i64 h,.pointer (some ⟨ej,0,none⟩),.pointer (some ⟨gP,0,none⟩),.pointer none,.pointer (some ⟨P,0,none⟩)] 210 (0,0))):=by show _=_;rw[hbc.block _ (lBq E6.out)];exact E6.out
 have Fe:Hid (mK.heap[S]?=some (.cells #[.int .i64 stock,.int .i64 stock,.int .i64 0] 138 (0,0))):=by show _=_;rw[hbc.block _ (lBq E7.out)];exact E7.out
 have Lj:Hid (mK.heap[P]?=some (.cells (bU fun _=>0) 213 (0,0))):=by show _=_;rw[hbc.block _ (lBq E8.out)];exact E8.out
 have Ff:Hid (mK.heap[ej]?=some (.cells #[.pointer (some ⟨B0,0,none⟩),.int .i64 ref,.int .i64 0] 267 (0,0))):=by show _=_;rw[hbc.block _ (lBq Lf.out)];exact Lf.out
 have Ll:Hid (mK.heap[B0]?=some (.cells #[.slice none 0 0] 276 (0,0))):=by show _=_;rw[hbc.block _ (lBq E9.out)];exact E9.out
 have Fg:Hid (mK.heap[gP]?=some (.cells #[.pointer (some ⟨B1,0,none⟩),.int .i64 ref,.int .i64 0] 267 (0,0))):=by show _=_;rw[hbc.block _ (lBq Lg.out)];exact Lg.out
 have Lm:Hid (mK.heap[B1]?=some (.cells #[.slice none 0 0] 276 (0,0))):=by show _=_;rw[hbc.block _ (lBq E_.out)];exact E_.out
 have Fh:=hDq (Fa.out.trans (hbc.mono Fa.out.size));have SZ:Hid (w.heap.size<=B2):=by have:=Fa.out.size;show _<=_;omega
 refine⟨_,rfl,hK _ _ ?_⟩;rw[ny];have S4:Hid (B2≠F∧B2≠S∧B2≠P∧B2≠B0∧B2≠B1):=by
  have l1:=lBq E6.out;have l2:=lBq E7.out;have l3:=lBq E8.out;have K5:=lBq E9.out;have aec:=lBq E_.out;refine⟨by omega,by omega,by omega,by omega,by omega⟩
 clear hK K hbc hwc ny E6 E7 E8 Lf E9 Lg E_ Fa;refine cF rfl (fun K hK=>?_);refine⟨by rfl,?_⟩;unfold aI;go_simp;refine hK _ ?_;clear hK K;refine b_ rfl (fun K hK=>?_);refine⟨by rfl,?_⟩;unfold aR;go_simp;obtain⟨I2,hI2⟩:∃ I,mK.heap.size=I:=⟨_,rfl⟩;obtain⟨wd2,hwd⟩:∃ x,mK.alloc (.cells #[.pointer (some ⟨B2,0,none⟩),.int .i64 ref,.int .i64 0] 267)=x:=⟨_,rfl⟩;have hbd:Below mK.heap.size mK wd2:=by rw[<- hwd];exact(bRq _ _).alloc (lRq _) _
 have Fi:Hid (wd2.heap[I2]?=some (.cells #[.pointer (some ⟨B2,0,none⟩),.int .i64 ref,.int .i64 0] 267 (0,0))):=by show _=_;rw[<- hwd,<- hI2];exact hNq _ _
 rw[hI2,hwd];have mL:Hid (wd2.heap[F]?=some (.cells #[.int .i64 wd,.int .i64 h,.pointer (some ⟨ej,0,none⟩),.pointer (some ⟨gP,0,none⟩),.pointer none,.pointer (some ⟨P,0,none⟩)] 210 (0,0))):=by show _=_;rw[hbd.block _ (lBq Fb.out)];exact Fb.out
 have Fj:Hid (wd2.heap[S]?=some (.cells #[.int .i64 stock,.int .i64 stock,.int .i64 0] 138 (0,0))):=by show _=_;rw[hbd.block _ (lBq Fe.out)];exact Fe.out
 have Fp:Hid (wd2.heap[P]?=some (.cells (bU fun _=>0) 213 (0,0))):=by show _=_;rw[hbd.block _ (lBq Lj.out)];exact Lj.out
 have Fq:Hid (wd2.heap[ej]?=some (.cells #[.pointer (some ⟨B0,0,none⟩),.int .i64 ref,.int .i64 0] 267 (0,0))):=by show _=_;rw[hbd.block _ (lBq Ff.out)];exact Ff.out
 have Fv:Hid (wd2.heap[B0]?=some (.cells #[.slice none 0 0] 276 (0,0))):=by show _=_;rw[hbd.block _ (lBq Ll.out)];exact Ll.out
 have Fw:Hid (wd2.heap[gP]?=some (.cells #[.pointer (some ⟨B1,0,none⟩),.int .i64 ref,.int .i64 0] 267 (0,0))):=by show _=_;rw[hbd.block _ (lBq Fg.out)];exact Fg.out
 have Fx:Hid (wd2.heap[B1]?=some (.cells #[.slice none 0 0] 276 (0,0))):=by show _=_;rw[hbd.block _ (lBq Lm.out)];exact Lm.out
 have Fy:Hid (wd2.heap[B2]?=some (.cells #[.slice none 0 0] 276 (0,0))):=by show _=_;rw[hbd.block _ (lBq Li.out)];exact Li.out
 have Ln:=hDq (Fh.out.trans (hbd.mono Fh.out.size));have S7:Hid (w.heap.size<=I2):=by have:=Fh.out.size;show _<=_;omega
 have S8:Hid (I2≠F∧I2≠S∧I2≠ej∧I2≠gP):=by
  have l1:=lBq Fb.out;have l2:=lBq Fe.out;have K5:=lBq Ff.out;have aec:=lBq Fg.out;refine⟨by omega,by omega,by omega,by omega⟩
 refine hK _ _ ?_;clear hK K hbd hwd hI2 Fb Fe Lj Ff Ll Fg Lm Li Fh;refine cF rfl (fun K hK=>?_);refine⟨by rfl,?_⟩;unfold aI;go_simp;refine hK _ ?_;clear hK K;have c0:wd2.cell? ⟨F,4,none⟩=some (.pointer none):=by rw[cR wd2 _ 4 _ _ _ mL.out];rfl
 have f0:wd2.frozen? ⟨F,4,none⟩=false:=by simp[World.frozen?,mL.out]
 obtain⟨we2,lh⟩:∃ x,wd2.setCell ⟨F,4,none⟩ (.pointer (some ⟨I2,0,none⟩))=x:=⟨_,rfl⟩;have bB:aH wd2 we2 F:=by rw[<- lh];exact aH.setCell _ _ _ _
 have Fz:Hid (we2.heap[F]?=some (.cells #[.int .i64 wd,.int .i64 h,.pointer (some ⟨ej,0,none⟩),.pointer (some ⟨gP,0,none⟩),.pointer (some ⟨I2,0,none⟩),.pointer (some ⟨P,0,none⟩)] 210 (0,0))):=by show _=_;rw[<- lh,setCell_eq_setRow _ F 4 _ _ _ _ mL.out];exact setRow_heap _ F _ _ _ _ mL.out
 have mM:Hid (we2.heap[S]?=some (.cells #[.int .i64 stock,.int .i64 stock,.int .i64 0] 138 (0,0))):=by show _=_;rw[bB.block _ (lBq Fj.out) (aA Fj.out mL.out (by decide))];exact Fj.out
 have FB:Hid (we2.heap[P]?=some (.cells (bU fun _=>0) 213 (0,0))):=by show _=_;rw[bB.block _ (lBq Fp.out) (aA Fp.out mL.out (by decide))];exact Fp.out
 have FC:Hid (we2.heap[ej]?=some (.cells #[.pointer (some ⟨B0,0,none⟩),.int .i64 ref,.int .i64 0] 267 (0,0))):=by show _=_;rw[bB.block _ (lBq Fq.out) (aA Fq.out mL.out (by decide))];exact Fq.out
 have FD:Hid (we2.heap[B0]?=some (.cells #[.slice none 0 0] 276 (0,0))):=by show _=_;rw[bB.block _ (lBq Fv.out) (aA Fv.out mL.out (by decide))];exact Fv.out
 have FE:Hid (we2.heap[gP]?=some (.cells #[.pointer (some ⟨B1,0,none⟩),.int .i64 ref,.int .i64 0] 267 (0,0))):=by show _=_;rw[bB.block _ (lBq Fw.out) (aA Fw.out mL.out (by decide))];exact Fw.out
 have FF:Hid (we2.heap[B1]?=some (.cells #[.slice none 0 0] 276 (0,0))):=by show _=_;rw[bB.block _ (lBq Fx.out) (aA Fx.out mL.out (by decide))];exact Fx.out
 have FH:Hid (we2.heap[B2]?=some (.cells #[.slice none 0 0] 276 (0,0))):=by show _=_;rw[bB.block _ (lBq Fy.out) (aA Fy.out mL.out (by decide))];exact Fy.out
 have FI:Hid (we2.heap[I2]?=some (.cells #[.pointer (some ⟨B2,0,none⟩),.int .i64 ref,.int .i64 0] 267 (0,0))):=by show _=_;rw[bB.block _ (lBq Fi.out) (aA Fi.out mL.out (by decide))];exact Fi.out
 have Lp:=hDq (Ln.out.trans (bB.below Ln.out.size Eu.out));have tj:=hDq lh;clear lh;refine b_ rfl (fun K hK=>?_);refine⟨by rfl,?_⟩;unfold aR;go_simp;rw[tj.out];refine hK _ _ ?_;clear hK K c0 f0 bB tj hnx mL Fj Fp Fq Fv Fw Fx Fy Fi Ln;refine kD ?_;have c0:we2.cell? ⟨S,2,none⟩=some (.int .i64 0):=by rw[cR we2 _ 2 _ _ _ mM.out];rfl
 have f0:we2.frozen? ⟨S,2,none⟩=false:=by simp[World.frozen?,mM.out]
 obtain⟨po,hwf⟩:∃ x,we2.setCell ⟨S,2,none⟩ (.int .i64 stock)=x:=⟨_,rfl⟩;have bB:aH we2 po S:=by rw[<- hwf];exact aH.setCell _ _ _ _
 have S9:Hid (po.heap[S]?=some (.cells #[.int .i64 stock,.int .i64 stock,.int .i64 stock] 138 (0,0))):=by show _=_;rw[<- hwf,setCell_eq_setRow _ S 2 _ _ _ _ mM.out];exact setRow_heap _ S _ _ _ _ mM.out
 have S_:Hid (po.heap[F]?=some (.cells #[.int .i64 wd,.int .i64 h,.pointer (some ⟨ej,0,none⟩),.pointer (some ⟨gP,0,none⟩),.pointer (some ⟨I2,0,none⟩),.pointer (some ⟨P,0,none⟩)] 210 (0,0))):=by show _=_;rw[bB.block _ (lBq Fz.out) (aA Fz.out mM.out (by decide))];exact Fz.out
 have Ta:Hid (po.heap[P]?=some (.cells (bU fun _=>0) 213 (0,0))):=by show _=_;rw[bB.block _ (lBq FB.out) (aA FB.out mM.out (by decide))];exact FB.out
 have Tb:Hid (po.heap[ej]?=some (.cells #[.pointer (some ⟨B0,0,none⟩),.int .i64 ref,.int .i64 0] 267 (0,0))):=by show _=_;rw[bB.block _ (lBq FC.out) (aA FC.out mM.out (by decide))];exact FC.out
 have Tc:Hid (po.heap[B0]?=some (.cells #[.slice none 0 0] 276 (0,0))):=by show _=_;rw[bB.block _ (lBq FD.out) (aA FD.out mM.out (by decide))];exact FD.out
 have Td:Hid (po.heap[gP]?=some (.cells #[.pointer (some ⟨B1,0,none⟩),.int .i64 ref,.int .i64 0] 267 (0,0))):=by show _=_;rw[bB.block _ (lBq FE.out) (aA FE.out mM.out (by decide))];exact FE.out
 have Te:Hid (po.heap[B1]?=some (.cells #[.slice none 0 0] 276 (0,0))):=by show _=_;rw[bB.block _ (lBq FF.out) (aA FF.out mM.out (by decide))];exact FF.out
 have Tf:Hid (po.heap[I2]?=some (.cells #[.pointer (some ⟨B2,0,none⟩),.int .i64 ref,.int .i64 0] 267 (0,0))):=by show _=_;rw[bB.block _ (lBq FI.out) (aA FI.out mM.out (by decide))];exact FI.out
 have Tg:Hid (po.heap[B2]?=some (.cells #[.slice none 0 0] 276 (0,0))):=by show _=_;rw[bB.block _ (lBq FH.out) (aA FH.out mM.out (by decide))];exact FH.out
 have Ti:=hDq (Lp.out.trans (bB.below Lp.out.size jT.out));have tq:=hDq hwf;clear hwf bB Fz FB FC FD FE FF FI FH Lp;go_wp2;rw[tq.out];clear c0 f0 tq mM;rw[rounds_succ];go_wp2;obtain⟨I,hI⟩:∃ I:Nat->Nat,I=fun j=>if j=0 then ej else if j=1 then gP else I2:=⟨_,rfl⟩;obtain⟨b,hb⟩:∃ b:Nat->Nat,b=fun j=>if j=0 then B0 else if j=1 then B1 else B2:=⟨_,rfl⟩;have nK:I 0=ej:=by rw[hI];rfl
 have qY:I 1=gP:=by rw[hI];rfl
 have hI2:I 2=I2:=by rw[hI];rfl
 have hb0:b 0=B0:=by rw[hb];rfl
 have hb1:b 1=B1:=by rw[hb];rfl
 have hb2:b 2=B2:=by rw[hb];rfl
 have c3:∀ j,j<3->j=0∨j=1∨j=2:=fun j hj=>by omega
 have hfl:aU w po F P I b (fun _=>.slice none 0 0) (fun _=>[]) (Fl.jY cash stock 0) (Fl.sY ref) wd h:=by
  refine⟨by unfold sZ;rw[nK,qY,hI2];exact S_.out,fun j hj=>?_,fun j hj=>?_,fun j k hj hk hjk=>?_,fun j k hj hk hjk=>?_,fun j k hj hk hjk m hm=>(by cases hm),Ta.out,Eu.out,ad9.out,fun j hj=>?_,Ti.out⟩
  ·rcases c3 j hj with rfl | rfl | rfl
   ·rw[nK,hb0];exact Tb.out
   ·rw[qY,hb1];exact Td.out
   ·rw[hI2,hb2];exact Tf.out
  ·rcases c3 j hj with rfl | rfl | rfl
   ·rw[hb0];exact⟨Tc.out,SQ.out,World.ownsRow_nil _ _ _ _⟩
   ·rw[hb1];exact⟨Te.out,SS.out,World.ownsRow_nil _ _ _ _⟩
   ·rw[hb2];exact⟨Tg.out,SZ.out,World.ownsRow_nil _ _ _ _⟩
  ·have n1:=SY.out;have n2:=S8.out
   rcases c3 j hj with rfl | rfl | rfl <;> rcases c3 k hk with rfl | rfl | rfl <;> (try exact absurd rfl hjk) <;> simp only[nK,qY,hI2] <;> omega
  ·have n1:=SV.out;have n2:=S4.out
   rcases c3 j hj with rfl | rfl | rfl <;> rcases c3 k hk with rfl | rfl | rfl <;> (try exact absurd rfl hjk) <;> simp only[hb0,hb1,hb2] <;> omega
  ·rcases c3 j hj with rfl | rfl | rfl
   ·rw[nK];exact SR.out
   ·rw[qY];exact SX.out
   ·rw[hI2];exact S7.out
 have iO:=hDq hfl;have FJ:=hDq (fun k (hk:k<6)=>Fl.R9 H.out k hk);clear hfl hI hb nK qY hI2 hb0 hb1 hb2 c3 S_ Ta Tb Td Tf Tc Te Tg Ti aeb SY S8 aea SV S4 SQ SS SZ SR SX S7
 go_loopw [56] (fun c wr=>∃ (k:Nat),k<=6∧c=.int .i64 k∧aU w wr F P I b (fun _=>.slice none 0 0) (fun _=>[]) (Fl.jY cash stock k) (Fl.sY ref) wd h∧wr.heap[S]?=some (.cells #[.int .i64 stock,.int .i64 stock,.int .i64 stock] 138 (0,0))) (fun c _=>6-(intOf c).toNat)
 case atStart=>exact⟨0,by omega,rfl,iO.out,S9.out⟩
 case round =>
  obtain⟨k,hk,rfl,hf,ha⟩:=hrel;have HF:=hDq hf;have HA:=hDq ha;clear hf ha iO S9;by_cases hlt:k<6
  ·have aK:(k:Int)<6:=by omega
   have fp:=HF.out.cellP;have a0:wr.cell? ⟨S,0,none⟩=some (.int .i64 stock):=by rw[cR wr _ 0 _ _ _ HA.out];rfl
   have a1:wr.cell? ⟨S,1,none⟩=some (.int .i64 stock):=by rw[cR wr _ 1 _ _ _ HA.out];rfl
   have a2:wr.cell? ⟨S,2,none⟩=some (.int .i64 stock):=by rw[cR wr _ 2 _ _ _ HA.out];rfl
   go_wp2_with fail
   refine jW 7 (by kernel_rfl) (by kernel_rfl) ?_;simp only[List.take_succ_cons,List.take_zero,List.drop_succ_cons,List.drop_zero]
   repeat (first | go_big_quiet_step (fail) | quiet_step (fail))
   refine wpQuiet_nil ?_;intro _ hw';obtain⟨nq,hw''⟩:=hw';subst hw'';have bX:Hid ((wr.drewN nq).heap[S]?=some (.cells #[.int .i64 stock,.int .i64 stock,.int .i64 stock] 138 (0,0))):=HA.out;have bT:=hDq (HF.out.later (dn nq));clear fp a0 a1 a2 HA HF;generalize wr.drewN nq=wg at *;have hg:=aed P ⟨k,cash,stock,stock,stock⟩ (Fl.jY cash stock k) ev wg (bT.out.bP he.out).per bT.out.cy (Fl.J9 cash stock k);rw[FJ.out k hlt,show cw ev 0=.nilIface from rfl]at hg;have HG:=hDq hg;clear hg;unfold Tj at HG;simp only[]at HG
   go_wp2_with fail
   refine HG.out.mono ?_;rintro e Tk ⟨rfl,hp,hs⟩;have fR:Hid (aU w Tk F P I b (fun _=>.slice none 0 0) (fun _=>[]) (Fl.jY cash stock (k+1)) (Fl.sY ref) wd h):=bT.out.purse hp hs;have vB:Hid (Tk.heap[S]?=some (.cells #[.int .i64 stock,.int .i64 stock,.int .i64 stock] 138 (0,0))):=by
    show _=_;rw[hs.block _ (lBq bX.out) (aA bX.out bT.out.cy (by decide))];exact bX.out
   clear hp hs HG bX bT;simp only[];go_wp2;refine⟨⟨k+1,by omega,by go_num,fR.out,vB.out⟩,by simp[intOf];omega⟩
  ·have aK:¬ (k:Int)<6:=by omega
   obtain rfl:k=6:=by omega
   go_wp2;go_ret2;exact⟨F,P,I,b,rfl,HF.out⟩
end
end Go.Proofs.YtjolccidheflpaaGreatDoor
