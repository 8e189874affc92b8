/- Function filled of package batch: the lots of one side's fills. -/
import Derived.Test.YtjolccidheflpaaGreatDoorX25
import Derived.Test.YtjolccidheflpaaGreatDoorX29
namespace Go.Proofs.YtjolccidheflpaaGreatDoor
open Go.Proofs.Tryz
set_option maxHeartbeats 8000000
set_option maxRecDepth 100000
section
open Go.RowKit
theorem af1(l:List Cv.af)(sd:Int)(f:Int×Int):(Fs.pH l sd f).length<=1:=by unfold Fs.pH;split <;> simp
theorem KQ(l:List Cv.af)(sd:Int):∀F,(Fs.filled l sd F).length<=F.length
 | []=>E _
 | f::F=>by
  have:=KQ l sd F
  have:=af1 l sd f
  rw[Fs.filled,lAq,lCq];omega
theorem af2(l:List Cv.af)(sd:Int)(F:List (Int×Int))(f:Int×Int):Fs.filled l sd (F++[f])=Fs.filled l sd F++Fs.pH l sd f:=by rw[Fs.T8,Fs.filled,Fs.filled,aNq]
theorem af3(b base Co cap n:Nat)(v:Value)(sd:Int)(l:List Cv.af)(F:List (Int×Int))(w:World)(hb:Hid (dG w base b v l))(hl:Hid (l.length<=60))(hn:Hid (F.length=n))(hn':n<=400)(hF:Hid (∀i,i<n->w.cell? ⟨Co,i*2,none⟩=some (Z (fC F i).1)/\w.cell? ⟨Co,i*2+1,none⟩=some (Z (fC F i).2))):
  Calls prog 263 #[Rw b,Z sd,.slice (some (O Co 0)) n cap] w fun e w'=>∃v',e=.returned v'/\w'.ownsRow w.heap.size 197 5 v' (Fs.filled l sd F).length (flat (Fs.filled l sd F))/\U w w':=by
 obtain⟨i0,z0,hi,hz0,hz1,hz2,hz3⟩:=Fh;have Hi:=Y hi;have fe:=Y hz0;have fg:=Y hz1;have fh:=Y hz2;have lM:=Y hz3;clear hi hz0 hz1 hz2 hz3;go_enter func263,ntmps263;go_wp2
 go_loopw [7,14] (fun u i wr=>∃(k:Nat) (zs:List Cv.af),k<=n/\i=Z k/\zs=Fs.filled l sd (F.take k)/\zs.length<=k/\wr.ownsRow w.heap.size 197 5 u zs.length (flat zs)/\U w wr) (fun _ i _=>n-(intOf i).toNat)
 case atStart=>exact⟨0,[],Nat.zero_le _,rfl,rfl,E _,⟨rfl,.inl ⟨rfl,rfl⟩⟩,bRq _ _⟩
 case round =>
  obtain⟨k,zs,hk,rfl,hzs,hzl,hrow,hbl⟩:=hrel;have T9:=Y hzs;have kn:=Y hrow;have iz:=Y hbl;clear hzs hrow hbl;by_cases hlt:k<n
  .have aT:(k:Int)<n:=by omega
   obtain⟨c0,c1⟩:=hF.out k hlt;have c0:=cell_later iz c0;have c1:=cell_later iz c1;have qB:Hid (Fs.filled l sd (F.take (k+1))=zs++Fs.pH l sd (fC F k)):=by show _=_;rw[af4 (by rw[hn.out];exact hlt),af2,<- T9.out]
   obtain⟨⟨id,q⟩,vE⟩:∃f,fC F k=f:=⟨_,rfl⟩;rw[vE]at c0 c1 qB;clear vE;simp only[]at c0 c1;have hb1:U wr (wr.alloc (.cells #[Z id,Z q] 300)):=aj;have nD:=Y (Fi b base v id l (wr.alloc (.cells #[Z id,Z q] 300)) ((hb.later (iz)).later hb1) hl);have hd:(wr.alloc (.cells #[Z id,Z q] 300)).heap[wr.heap.size]?=some (.cells #[Z id,Z q] 300 (0,0)):=hNq _ _;have HD:=Y hd;have HB1:=Y (ar iz hb1);have HR1:=Y (kn.alloc (.cells #[Z id,Z q] 300));clear hd hb1;obtain⟨D,T_⟩:=aG wr.heap.size;have FN:=Y T_;clear T_;cases hh:Cv.has l id with
   | false =>
    have xJ:Hid (Fs.pH l sd (id,q)=[]):=by show _=_;unfold Fs.pH;rw[if_neg (by simp[hh])]
    rw[hh,show Bk.j_ l id=Cv.z by unfold Bk.j_;rw[hh];rfl]at nD;unfold cm Cv.z at nD
    go_wp2_with fail
    refine nD.mono ?_;rintro e w2 ⟨rfl,hb2⟩;have HB2:=Y (ar HB1 hb2);have b_:=Y (dh HR1 hb2);clear hb2;simp only[];have av:=Y (HB2.alloc HB2.size (.cells #[Z 0,Z 0,Z 0,Z 0,Z 0] 197));have HR3:=Y (b_.alloc (.cells #[Z 0,Z 0,Z 0,Z 0,Z 0] 197));go_wp2;refine⟨⟨k+1,zs,by omega,by go_num,by rw[qB.out,xJ.out,aNq],by omega,HR3,av⟩,by simp[intOf];omega⟩
   | true =>
    rw[hh,show Bk.j_ l id=Cv.nth l (Bk.pos l id) by unfold Bk.j_;rw[if_pos hh]]at nD;have xJ:Hid (Fs.pH l sd (id,q)=if (Cv.nth l (Bk.pos l id)).sd=sd then [Pu.only (Cv.nth l (Bk.pos l id)) q] else []):=by
     show _=_;unfold Fs.pH;by_cases hs:(Cv.nth l (Bk.pos l id)).sd=sd
     .rw[if_pos ⟨hh,hs⟩,if_pos hs]
     .rw[if_neg (fun h=>hs h.2),if_neg hs]
    generalize Cv.nth l (Bk.pos l id)=X at *;obtain⟨x0,x1,x2,x3,x4⟩:=X;unfold cm at nD;simp only[Pu.only]at xJ nD;by_cases hs:x2=sd
    .subst hs
     rw[if_pos rfl]at xJ
     go_wp2_with fail
     refine nD.mono ?_;rintro e w2 ⟨rfl,hb2⟩;have HB2:=Y (ar HB1 hb2);have b_:=Y (dh HR1 hb2);have qC:w2.heap[D]?=some (.cells #[Z id,Z q] 300 (0,0)):=by rw[<- FN.out,hb2.block _ (lBq HD.out)];exact HD
     rw[FN.out];have d1:=ag qC 1 rfl;have hDl:=lBq qC;clear hb2 qC;have av:=Y (HB2.alloc HB2.size (.cells #[Z x0,Z x1,Z x2,Z x3,Z q] 197));have HR3:=Y (b_.alloc (.cells #[Z x0,Z x1,Z x2,Z x3,Z q] 197));simp only[]
     go_wp2_with (at_builtin;refine wpList_append_own_at _ rfl _ _ 195 rfl w.heap.size 197 i0 z0 5 40 underlying195 Hi fe fg fh lM (by decide) _ _ _ rfl (HR3.alloc _) ⟨w2.heap.size+1,0,none⟩ 1 1 (eK ⟨x0,x1,x2,x3,q⟩) rfl rfl ?c1 ?c2 ?c3 ?c4 ?c5 ?_)
     case c1=>exact fun j u hj=>zu _ ⟨x0,x1,x2,x3,q⟩ 197 _ (by simp) j u hj
     case c2 => exact fun u hu => by
                     simp only[eK,List.mem_cons,List.not_mem_nil,or_false]at hu;rcases hu with rfl | rfl | rfl | rfl | rfl <;> rfl
     case c3=>unfold maxLen;omega
     case c4=>omega
     case c5=>have:=av.size;simp at this ⊢;omega
     intro ve we hown' hgrow _ hloc;have kP:Hid (we.ownsRow w.heap.size 197 5 ve (zs++[Cv.af.mk x0 x1 x2 x3 q]).length (flat (zs++[Cv.af.mk x0 x1 x2 x3 q]))):=by show World.ownsRow _ _ _ _ _ _ _;rw[show flat (zs++[Cv.af.mk x0 x1 x2 x3 q])=flat zs++eK ⟨x0,x1,x2,x3,q⟩ by simp[flat],lAq];exact hown'
     have KO:=(HR3.alloc (.cells #[Z x0,Z x1,Z x2,Z x3,Z q] 197)).lt;have rI:Hid (U w we):=(av.alloc av.size _).grown hgrow (by have:=av.size;simp at this ⊢;omega) (fun j hj=>(KO j hj).1);clear hown' hgrow hloc KO d1;go_wp2;refine⟨⟨k+1,zs++[Cv.af.mk x0 x1 x2 x3 q],by omega,by go_num,by rw[qB.out,xJ.out],by simp;omega,kP,rI⟩,by simp[intOf];omega⟩
    .have hs':(x2==sd)=false:=by simpa using hs
     rw[if_neg hs]at xJ
     go_wp2_with fail
     refine nD.mono ?_;rintro e w2 ⟨rfl,hb2⟩;have HB2:=Y (ar HB1 hb2);have b_:=Y (dh HR1 hb2);clear hb2;have av:=Y (HB2.alloc HB2.size (.cells #[Z x0,Z x1,Z x2,Z x3,Z x4] 197));have HR3:=Y (b_.alloc (.cells #[Z x0,Z x1,Z x2,Z x3,Z x4] 197));simp only[];go_wp2;refine⟨⟨k+1,zs,by omega,by go_num,by rw[qB.out,xJ.out,aNq],by omega,HR3,av⟩,by simp[intOf];omega⟩
  .have aT:¬ (k:Int)<n:=by omega
   have hzz:zs=Fs.filled l sd F:=by rw[T9.out,List.take_of_length_le (by rw[hn.out];omega)]
   subst hzz;go_wp2;go_ret;exact⟨_,rfl,kn,iz⟩
theorem Ua(b base:Nat)(v jo:Value)(sd:Int)(l:List Cv.af)(F:List (Int×Int))(w:World)(hb:Hid (dG w base b v l))(hl:Hid (l.length<=60))(hn:F.length<=400)(hF:Hid (KR w jo F)):
  Calls prog 263 #[Rw b,Z sd,jo] w fun e w'=>∃v',e=.returned v'/\w'.ownsRow w.heap.size 197 5 v' (Fs.filled l sd F).length (flat (Fs.filled l sd F))/\U w w':=by
 rcases hF.out with ⟨rfl,a,cap,rfl⟩ | ⟨Co,cap,rfl,hc⟩
 .go_enter func263,ntmps263
  go_wp2;refine wp_loop_rounds 1 ?_;rw[rounds_succ];go_wp2;go_ret;exact⟨_,rfl,⟨rfl,.inl ⟨rfl,rfl⟩⟩,bRq _ _⟩
 .exact af3 b base Co cap F.length v sd l F w hb hl rfl hn hc
def gI(w:World)(v:Value)(F:List (Int×Int)):Prop :=
 (F=[]/\∃a cap,v=.slice a 0 cap)\/∃g cap cur,v=.slice (some (O g 0)) F.length cap/\(∀i,i<F.length->w.cell? ⟨g,i*2,none⟩=some (Z (fC F i).1)/\w.cell? ⟨g,i*2+1,none⟩=some (Z (fC F i).2))/\w.heap[g]?=some (.cells cur 300 (0,0))
section
variable {w w':World} {v:Value} {F:List (Int×Int)}
theorem gI.U'(h:gI w v F):KR w v F:=by
 rcases h with h | ⟨g,cap,cur,h1,h2,_⟩
 .exact .inl h
 .exact .inr ⟨g,cap,h1,h2⟩
theorem gI.keep(h:gI w v F)(hk:∀(g:Nat) (cur:Array Value),w.heap[g]?=some (Obj.cells cur 300 (0,0))->w'.heap[g]?=w.heap[g]?):gI w' v F:=by
 rcases h with h | ⟨g,cap,cur,h1,h2,h3⟩
 .exact .inl h
 .refine .inr ⟨g,cap,cur,h1,fun i hi=>?_,by rw[hk g cur h3];exact h3⟩
  rw[World.cell?_of_block (a:=⟨g,i*2,none⟩) (hk g cur h3),World.cell?_of_block (a:=⟨g,i*2+1,none⟩) (hk g cur h3)];exact h2 i hi
theorem gI.later(h:gI w v F)(hb:U w w'):gI w' v F:=h.keep fun g _ hg=>hb.block g (lBq hg)
theorem gI.save{q:Nat}(h:gI w v F)(hs:aU w w' q){a:Array Value}{T:TypeId}(hq:w.heap[q]?=some (.cells a T (0,0)))(hT:T≠300):gI w' v F :=
 h.keep fun g _ hg=>hs.block g (lBq hg) (Ne.symm (aN hq hg hT))
theorem gI.book{base p:Nat}{u u':Value}{l:List Cv.af}(h:gI w v F)(hb:dG w base p u l)(hs:Step w w' p u u'):gI w' v F :=
 h.keep fun g _ hg=>hs.only.block g (lBq hg) (fun e=>by
  have:g=p:=by simpa using e
  exact aN hg hb.cell (by decide) this) (fun e=>jS hb.row hg (by decide) e.symm)
theorem gI.CS{base:Nat}(h:w.ownsRow base 300 2 v F.length (fy F)):gI w v F:=by
 rcases ag9 h with h1 | ⟨g,cap,h1,h2⟩
 .exact .inl h1
 .rcases h.2 with ⟨e,_⟩ | ⟨g',cap',cur,e,hg,er,_⟩
  .rw[e]at h1;cases h1
  .rw[e]at h1
   simp only[Value.slice.injEq,Option.some.injEq,Addr.mk.injEq]at h1;obtain⟨⟨rfl,_,_⟩,_,rfl⟩:=h1;exact .inr ⟨g',cap',cur,e,h2,er⟩
theorem gI.val(h:gI w v F):∃a cap,v=.slice a F.length cap:=by
 rcases h with ⟨rfl,a,cap,rfl⟩ | ⟨g,cap,cur,rfl,_⟩
 .exact⟨a,cap,rfl⟩
 .exact⟨_,_,rfl⟩
end
theorem eU.nil{w:World}{g g':Nat}{v:Value}(h:eU w g v []):eU w g' v []:=by
 rcases h with h | ⟨o,cap,cur,h1,h2,h3,h4⟩
 .exact .inl h
 .exact .inl ⟨rfl,_,_,h1⟩
theorem aha{w1 w2:World}{B Va Vb:Nat}{v1 v2:Value}{l1 l2:List Cv.af}(h1:w1.ownsRow Va 197 5 v1 l1.length (flat l1))(h12:U w1 w2)(h2:w2.ownsRow Vb 197 5 v2 l2.length (flat l2))(hb1:B<=Va)(hb2:w1.heap.size<=Vb)(hB:B<=w1.heap.size):
  ∃g1 g2,eU w2 g1 v1 l1/\eU w2 g2 v2 l2/\g1≠g2/\B<=g1/\B<=g2:=by
 obtain⟨g1,a1,c1⟩:=eU.CS (dh h1 h12);obtain⟨g2,a2,c2⟩:=eU.CS h2;have Gd:=h1.lt;rcases c1 with rfl | ⟨c1,e1⟩
 .rcases c2 with rfl | ⟨c2,e2⟩
  .exact⟨B,B+1,a1.nil,a2.nil,by omega,by omega,by omega⟩
  .exact⟨g2+1,g2,a1.nil,a2,by omega,by omega,by omega⟩
 .have:=Gd g1 e1
  rcases c2 with rfl | ⟨c2,e2⟩
  .exact⟨g1,g1+1,a1,a2.nil,by omega,by omega,by omega⟩
  .exact⟨g1,g2,a1,a2,by omega,by omega,by omega⟩
theorem ahh{l:List Cv.af}{price:Int}{bu:List (Int×Int)}(hok:Bk.Good l)(hF:Fs.vx l price bu){k:Nat}(hk:k<bu.length):
  Bk.nu (Fs.iB (bu.take k) l) (fC bu k).1 (fC bu k).2=0/\Bk.om (Fs.iB (bu.take k) l) (fC bu k).1 (fC bu k).2=Fs.iB (bu.take (k+1)) l/\Bk.Good (Fs.iB (bu.take k) l):=by
 have he:fC bu k=bu[k]:=by unfold fC;rw[gE,List.getElem?_eq_getElem hk];rfl
 have hpos:∀f∈bu,1<=f.2:=fun f hf=>(hF.pos f hf).1;obtain⟨hq,x,hx,hid⟩:=hF.pos _ (List.getElem_mem hk);have h1:=congrFun (Fs.MI bu hk) (bu[k]).1;simp only[Fu.more,if_true]at h1;have h2:=Fs.Vh (bu[k]).1 bu hpos (k+1);have h3:=(hF.le x hx).2;rw[hid]at h3;have h4:Ra.got x.id (bu.take k)+(bu[k]).2<=x.q:=by rw[hid];omega
 have hc:Ra.got x.id (bu.take k)<x.q:=by omega
 have hg:Bk.Good (Fs.iB (bu.take k) l):=Fs.Vi hok fun y _=>Fs.Gf _ _ fun f hf=>hpos f (List.mem_of_mem_take hf);rw[he,<- hid];refine⟨?_,?_,hg⟩
 .have hh:Cv.has (Fs.iB (bu.take k) l) x.id=true:=Fu.MJ.2 ⟨x,hx,rfl,hc⟩
  have hn:Cv.nth (Fs.iB (bu.take k) l) (Bk.pos (Fs.iB (bu.take k) l) x.id)=Bk.less x (Ra.got x.id (bu.take k)):=Fu.Vj (c:=fun id=>Ra.got id (bu.take k)) hok.once hx hc;unfold Bk.nu;rw[if_pos hh,if_pos];rw[hn];have e5:(bu[k]).2<=(Bk.less x (Ra.got x.id (bu.take k))).q:=by show (bu[k]).2<=x.q-Ra.got x.id (bu.take k);omega
  unfold ah.aK;rw[bEq];exact⟨decide_eq_true hq,decide_eq_true e5⟩
 .have:=Fu.ahi (c:=fun id=>Ra.got id (bu.take k)) hok.once hx hq h4
  unfold Fs.iB;rw[Fs.MI bu hk,this,hid]
section
variable {w W:World} {F P:Nat} {I b:Nat->Nat} {v:Nat->Value} {L:Nat->List Cv.af} {pf n:Nat->Int} {wd h:Int} {ev:Nat->Value}
theorem ahj{wr:World}{B:Nat}{f:Nat->Int}{o:Oper}{a:Act}{K:Act->Prop}(hp:bq wr 213 B f)(x:Operand)(ho:o.op=.load 213 x)(hx:a.eval x=.pointer (some ⟨B,0,none⟩))(hk:K (a.put o.dst (.agg (eT f)))):o.quiet prog a (fun w'=>∃m,w'=wr.drewN m) K :=
 ⟨_,fun w ⟨m,hm⟩=>by
  subst hm;unfold Oper.quietAt execOp;simp only[ho,hx,Instr.loadAt,Instr.sureAddr,Sem.run_bind,Sem.run_pure,Result.andThen_ok,MK (hp.drew m)];exact⟨rfl,rfl⟩,hk⟩
theorem ahk(T:TypeId)(v1 v5 v6 v7:Value):uW T v1 v5 v6 v7 0=.nilIface:=rfl
theorem agN(i:Nat)(hi:i<3)(price:Int)(jo:Value)(bu:List (Int×Int))(hF:Hid (bB w W F P I b v L pf n wd h))(he:Hid (eQ w ev))(hok:Hid (Fs.dI L pf))(ML:Hid (Fs.vx (L i) price bu))(hp1:1<=price)(hp2:price<=1000)(hrow:Hid (gI W jo bu))(hlen:bu.length<=200)(hnil:bu≠[]):
  Calls prog 223 #[.pointer (some ⟨F,0,none⟩),.int .i64 i,.int .i64 price,jo] W fun e W'=>e=.returned .nilIface/\∃v',bB w W' F P I b v' (upd L i (Fs.iB bu (L i))) (Fs.iw pf i price (L i) bu) n wd h/\bX W W' P I b v v'/\gI W' jo bu/\Fs.dI (upd L i (Fs.iB bu (L i))) (Fs.iw pf i price (L i) bu):=by
 have ci:=hF.xF hi;have cb:=hF.xG hi;have vO:=hF.cellP;have h0:(0:Int)<=(i:Int):=by omega
 have h3:(i:Int)<3:=by omega
 have ahl:=Y (ahm P pf W hF.dJ);obtain⟨CW,MN,ov⟩:∃CW MN,jo=.slice (some ⟨CW,0,none⟩) bu.length MN:=by
  rcases hrow.out with ⟨h,_⟩ | ⟨g,cap,cur,h1,_⟩
  .exact absurd h hnil
  .exact⟨g,cap,h1⟩
 subst ov;obtain⟨m,hm⟩:=aG bu.length;obtain⟨G,hG⟩:=aG (Fs.iw pf i price (L i) bu);rw[hG];have HM:=Y hm;have HG:=Y hG;rw[hm]at hlen hrow;rw[hm];clear hm hG;go_enter func223,ntmps223
 go_wp2_with fail
 refine ahl.mono ?_;rintro e w1 ⟨rfl,Vk,hb1⟩;have tJ:=Y Vk;have HB1:=Y hb1;clear Vk hb1 ci cb vO;obtain⟨NX,Gg⟩:=aG W.heap.size;rw[Gg]at tJ;rw[Gg];have xR:=Y Gg;clear Gg;have HR1:=Y (hrow.later HB1);have Vl:=Y ((hF.aO i hi).later HB1);have Gh:=Y (Ua (b i) w.heap.size (v i) _ 0 (L i) bu w1 Vl (hok.aO i hi).len (by rw[HM.out];omega) HR1.U');simp only[]
 go_wp2_with fail
 refine Gh.mono ?_;rintro e w2 ⟨vb,rfl,vP,hb2⟩;have zZ:=Y vP;have xS:=Y hb2;clear vP hb2;have xT:=Y (Ua (b i) w.heap.size (v i) _ 1 (L i) bu w2 (Vl.later xS) (hok.aO i hi).len (by rw[HM.out];omega) (HR1.later xS).U');simp only[]
 go_wp2_with fail
 refine xT.mono ?_;rintro e w3 ⟨vs,rfl,hos,hb3⟩;have ahn:=Y hos;have Vm:=Y hb3;clear hos hb3;have MO:Below w1.heap.size w1 w3:=ar xS Vm;have Gi:Below W.heap.size W w3:=ar HB1 MO;obtain⟨gJ,gs,vP,hos,hne,hgb,Gj⟩:=aha (B:=W.heap.size) zZ Vm ahn HB1.size (E _) (lTq HB1.size xS.size);have lx:=hok.start hi ML;have hl1:=KQ (L i) 0 bu;have hl2:=KQ (L i) 1 bu;rw[HM.out]at hl1 hl2;have kR:=Y (aho NX i W.heap.size gJ gs price vb vs _ _ pf _ ev w3 hi hp1 hp2 (fun W' hb=>(hF.cp he).below (Gi.trans hb)) ⟨Gi.size,by rw[xR.out];exact E _,hgb,Gj⟩ hne vP hos (tJ.iA MO) lx (by show _<=_;omega) (by show _<=_;omega));have ahp:=Y Gi;clear MO Gi vP hos hne hgb Gj lx hl1 hl2;simp only[]
 go_wp2_with fail
 refine kR.mono ?_;rintro e w4 ⟨rfl,⟨CX,hg4,Vn,cK⟩,hb4⟩;have Vo:Below W.heap.size W w4:=ahp.trans hb4;have hset:=hok.settled hi ML hg4 Vn cK;have rJ:=Y hset;have tr:=Y CX;have MP:=Y Vo;clear CX hg4 Vn cK hb4 Vo hset;rw[HG.out]at rJ tr;have eR:=Y (hF.later MP);have dL:=Y (bX.of_below MP P I b v);have cO:=Y (hrow.later MP);have ahq:=Y (fun k (hk:k<bu.length)=>ahh (hok.aO i hi) ML hk);have HST:Hid (upd L i (Fs.iB (bu.take 0) (L i))=L):=by show _=_;rw[List.take_zero,show Fs.iB [] (L i)=L i from Fu.Vp (hok.out.aO i hi).oks,pB]
 have ate:Hid (w.heap.size<=NX):=by show _<=_;rw[<- xR.out];exact hF.bG.size
 simp only[]
 go_wp2_with fail
 go_loopw [44] (fun c wr=>∃(k:Nat) (mI:Nat->Value),k<=m/\c=.int .i64 k/\bB w wr F P I b mI (upd L i (Fs.iB (bu.take k) (L i))) pf n wd h/\bX W wr P I b v mI/\gI wr (.slice (some ⟨CW,0,none⟩) m MN) bu/\bq wr 213 NX G) (fun c _=>m-(intOf c).toNat)
 case atStart=>exact⟨0,v,Nat.zero_le _,rfl,by rw[HST.out];exact eR,dL,cO,tr⟩
 case round =>
  obtain⟨k,mI,hk,rfl,hf,hs,hr,hp⟩:=hrel;have tj:=Y hf;have Cm:=Y hs;have xI:=Y hr;have MQ:=Y hp;clear hf hs hr hp;by_cases hlt:k<m
  .have aT:(k:Int)<m:=by omega
   have hcell:wr.cell? ⟨CW,k*2,none⟩=some (.int .i64 (fC bu k).1)/\wr.cell? ⟨CW,k*2+1,none⟩=some (.int .i64 (fC bu k).2):=by
    rcases xI.out with ⟨h,_⟩ | ⟨g,cap,cur,h1,h2,_⟩
    .exact absurd h hnil
    .simp only[Value.slice.injEq,Option.some.injEq,Addr.mk.injEq]at h1
     obtain⟨⟨rfl,_,_⟩,_,_⟩:=h1;exact h2 k (by rw[HM.out];exact hlt)
   obtain⟨c0,c1⟩:=hcell;obtain⟨hC,hL,hG⟩:=ahq.out k (by rw[HM.out];exact hlt);obtain⟨⟨id,q⟩,vE⟩:∃f,fC bu k=f:=⟨_,rfl⟩;rw[vE]at c0 c1 hC hL;simp only[]at c0 c1 hC hL;have hb1:Below wr.heap.size wr (wr.alloc (.cells #[.int .i64 id,.int .i64 q] 300)):=aj;have lX:=Y (tj.later hb1);have fu:=Y (Cm.below hb1);have bE:=Y (xI.later hb1);have pI:=Y (MQ.iA hb1);have Gk:=lX.aO i hi;rw[upd_same]at Gk;have MR:=Y Gk;have htk:=ady (b i) w.heap.size (mI i) id q (Fs.iB (bu.take k) (L i)) 412 (ev 1) (ev 5) (ev 6) (ev 7) (wr.alloc (.cells #[.int .i64 id,.int .i64 q] 300)) (lX.cp he).FP Gk hG;rw[hC,hL,ahk]at htk;have rY:=Y htk;clear hb1 Gk htk hC hL hG vE
   go_wp2_with fail
   refine rY.mono ?_;rintro e aA ⟨rfl,v6,hb6,gR⟩;have MS:=lX.book hi hb6 gR;rw[s7]at MS;have gH:=Y MS;have ej:=Y (fu.trans (bX.FQ hi gR P I));have bT:=Y (bE.book MR gR);have tK:Hid (bq aA 213 NX G):=by
    have xU:=pI.out;show _=_;rw[gR.only.block NX (lBq xU) (fun e=>by
     have:NX=b i:=by simpa using e
     exact aN xU MR.out.cell (by decide) this) (fun e=>jS MR.out.row xU (by decide) e.symm)]
    exact xU
   clear hb6 gR MS;simp only[];go_wp2;refine⟨⟨k+1,_,by omega,by go_num,gH,ej,bT,tK⟩,by simp[intOf];omega⟩
  .have aT:¬ (k:Int)<m:=by omega
   have ep:bu.take k=bu:=List.take_of_length_le (by rw[HM.out];omega);rw[ep]at tj;clear ep;have vO:=tj.cellP;have ahr:∀q,(loadVar 213 ⟨NX,0,none⟩).run prog (wr.drewN q)=.ok (.agg (eT G)) (wr.drewN q):=fun q=>MK (MQ.drew q)
   go_wp2_with fail
   refine jO 8 (by kernel_rfl) (by kernel_rfl) ?_;simp only[List.take_succ_cons,List.take_zero,List.drop_succ_cons,List.drop_zero]
   iterate 6 (first | go_big_quiet_step (fail) | quiet_step (fail))
   refine BigFrame.wpQuiet_want rfl (fun K hK=>ahj MQ (.tmp 63) rfl rfl (hK _ ?_));simp only[Act.put]
   repeat (first | go_big_quiet_step (fail) | quiet_step (fail))
   refine wpQuiet_nil ?_;intro _ hw';obtain⟨nq,hw''⟩:=hw';subst hw'';have mH:=Y (tj.later (dN nq));have lV:=Y (Cm.below (dN nq));have ew:=Y (xI.later (dN nq));clear vO ahr hK;generalize wr.drewN nq=dH at *
   go_wp2_with (refine Gl (B:=P) G (f:=pf) mH.dJ rfl (.tmp 65) (.tmp 64) rfl rfl rfl ?_)
   go_ret;refine⟨rfl,mI,mH.purse (mH.dJ.stored G) (aU.setRow _ _ _),lV.trans (bX.KT (aU.setRow _ _ _) I b mI),ew.save (aU.setRow _ _ _) mH.dJ (by decide),rJ⟩
end
theorem xL{l:List Cv.af}(h:Bk.Good l):Cv.gh l:=by
 refine⟨by have:=h.len;omega,fun i hi=>?_⟩;unfold Cv.qj;rw[bEq];have Vd:Cv.nth l i=l[i]:=by unfold Cv.nth;rw[gE,List.getElem?_eq_getElem hi];rfl
 refine⟨by rw[Vd];exact h.oks _ (List.getElem_mem hi),?_⟩;rw[Bool.not_eq_true'];cases hh:Cv.has (l.take i) (Cv.nth l i).id with
 | false=>rfl
 | true =>
  exfalso;unfold Cv.has at hh;rw[List.any_eq_true]at hh;obtain⟨x,hx,he⟩:=hh;obtain⟨j,hj,rfl⟩:=List.mem_iff_getElem.1 hx;have bC:j<i:=by simp only[List.length_take]at hj;omega
  rw[List.getElem_take]at he;have e1:(l[j]'(by omega)).id=(l[i]).id:=by rw[<- Vd];simpa using he
  have hn:(l.map (·.id)).Nodup:=h.once;have h3:=List.pairwise_iff_getElem.1 hn j i (by simp;omega) (by simpa using hi) bC;exact h3 (by simpa using e1)
theorem Vf{l:List Cv.af}(hl:Cv.eu l)(ref:Int):∀k:Nat,∃p v,Cv.fj l ref k p v
 | 0=>⟨0,0,Cv.fj.start l ref⟩
 | k+1=>by
  obtain⟨p,v,hw⟩:=Vf hl ref k;have e:((k+1:Nat):Int)=(k:Int)+1:=by omega
  rw[e];cases hb:Cv.vh (Cv.fG l (k+1)) (Cv.left l (k+1)) (Cv.away ref (k+1)) v (Cv.wl l p) (Cv.kG ref p) with
  | true=>exact⟨_,_,hw.take hl (by omega) hb⟩
  | false=>exact⟨_,_,hw.keep hl hb⟩
def MH(A D F:Nat)(ra rd lC:Obj)(W:World):Prop:=W.heap[A]?=some ra/\W.heap[D]?=some rd/\W.heap[F]?=some lC
theorem Ch(A D F:Nat)(ra rd lC:Obj):∃(X:Type) (val:X->World),(∀x,MH A D F ra rd lC (val x))/\∀W,MH A D F ra rd lC W->∃x,val x=W :=
 ⟨{ W:World // MH A D F ra rd lC W },fun x=>x.1,fun x=>x.2,fun W h=>⟨⟨W,h⟩,rfl⟩⟩
theorem KE{w:World}{base:Nat}{v:Value}{l:List Cv.af}(h:w.ownsRow base 197 5 v l.length (flat l)):iJ w v l:=by
 obtain⟨g,h1,_⟩:=eU.CS h;rcases h1 with h1 | ⟨o,cap,cur,e,h2,h3,_⟩
 .exact .inl h1
 .exact .inr ⟨g,o,cap,e,h2,h3⟩
namespace Fl
def mL(s:Int)(l:List Cv.af)(o:Bool)(p vol:Int):List (Int×Int):=if o=true/\0<vol then Ra.fills s l p vol else []
end Fl
theorem agH(v:Value)(l:List Cv.af)(price vol s:Int)(T:TypeId)(v1 v2 v6 v7:Value)(w:World)(hv:iJ w v l)(he:iV w T v1 v6 v7)(c2:w.cell? (O 3 0)=some (.iface T v2))(hf:Ra.kr l price vol)(hs:Ra.IsU s):
  Calls prog 222 #[v,Z price,Z vol,.int .u32 s] w fun e w'=>∃v',e=.returned (.tuple #[v',.nilIface])/\gI w' v' (Ra.fills s l price vol)/\U w w':=by
 obtain⟨hw,⟨h1,h2⟩,h3,h4⟩:=hf;have hvl:=ahd hw price;obtain⟨a,n,cap,rfl⟩:=hv.form;have sZ:=ahe a n cap price vol (Cv.fG l price) T v2 w (JH _ l T v1 v6 v7 w hv he hw) c2 (by show ah.aK price 1 1000=true;simp[ah.aK,h1,h2]) (by omega) (fun w1 hb=>aeB _ l price T v1 v6 v7 w1 (hv.later hb) (he.later hb) hw);rw[if_neg (by omega)]at sZ;have hl:=Ra.Vg s (l:=l) (price:=price) (vol:=vol) ⟨hw,⟨h1,h2⟩,h3,h4⟩;refine(ahf a n cap price vol s (Ra.tF s) l _ _ w sZ hv hw h1 h2 h3 (by omega) hs (Ra.ahg hs) ?_ rfl rfl hl.1 hl.2).mono ?_
 .unfold Ra.tF
  by_cases e:s=4294967295
  .exact .inl ⟨e,by rw[if_pos e]⟩
  .exact .inr ⟨hs.1,by have:=hs.2;omega,by rw[if_neg e]⟩
 .rintro e w' ⟨v',rfl,hr,hb⟩
  exact⟨v',rfl,gI.CS hr,hb⟩
def Cw(p vol:Int)(o:Bool)(v:Value):Value:=.agg #[Z p,Z vol,.bool o,v]
theorem xP{W:World}{R:Nat}(hz:W.heap[R]?=some (.cells #[Z 0,Z 0,.bool false,.slice none 0 0] 296 (0,0)))(p vol:Int)(o:Bool)(u:Value):
  ((((W.setCell (O R 0) (Z p)).setCell (O R 1) (Z vol)).setCell (O R 2) (.bool o)).setCell (O R 3) u).heap[R]?=some (.cells #[Z p,Z vol,.bool o,u] 296 (0,0)):=by
 have h0:(W.setCell (O R 0) (Z p)).heap[R]?=some (.cells #[Z p,Z 0,.bool false,.slice none 0 0] 296 (0,0)):=by rw[setCell_eq_setRow _ R 0 _ _ _ _ hz];exact setRow_heap _ R _ _ _ _ hz
 have h1:((W.setCell (O R 0) (Z p)).setCell (O R 1) (Z vol)).heap[R]?=some (.cells #[Z p,Z vol,.bool false,.slice none 0 0] 296 (0,0)):=by rw[setCell_eq_setRow _ R 1 _ _ _ _ h0];exact setRow_heap _ R _ _ _ _ h0
 have h2:(((W.setCell (O R 0) (Z p)).setCell (O R 1) (Z vol)).setCell (O R 2) (.bool o)).heap[R]?=some (.cells #[Z p,Z vol,.bool o,.slice none 0 0] 296 (0,0)):=by rw[setCell_eq_setRow _ R 2 _ _ _ _ h1];exact setRow_heap _ R _ _ _ _ h1
 rw[setCell_eq_setRow _ R 3 _ _ _ _ h2];exact setRow_heap _ R _ _ _ _ h2
theorem aU.put{W W1:World}{q:Nat}(h:aU W W1 q)(o:Nat)(x:Value):aU W (W1.setCell (O q o) x) q:=h.trans (aU.setCell _ _ _ _)
theorem bX.newer{W W1 W2:World}{P:Nat}{I b:Nat->Nat}{v v1:Nat->Value}(h:bX W W1 P I b v v1){q:Nat}(hs:aU W1 W2 q)(hq:W.heap.size<=q):bX W W2 P I b v v1 :=
 ⟨hs.os.trans h.os,hs.tape.trans h.tape,hs.output.trans h.output,lTq h.size hs.size,fun k hk h1 h2=>by rw[hs.block k (Nat.lt_of_lt_of_le hk h.size) (by omega)];exact h.keep k hk h1 h2,h.new⟩
section
variable {w W:World} {F P:Nat} {I b:Nat->Nat} {v:Nat->Value} {L:Nat->List Cv.af} {pf n:Nat->Int} {wd h:Int} {ev:Nat->Value}
theorem ahc(i:Nat)(hi:i<3)(s p vol:Int)(hF:Hid (bB w W F P I b v L pf n wd h))(he:Hid (eQ w ev))(hok:Hid (Fs.dI L pf))(Cu:Hid (bm.kC (n (i*2)) (n (i*2+1))=true))(Mh:Hid (bm.jK wd h=true))(kI:Hid (Cv.fj (L i) (n (i*2)) 1000 p vol))(hst:bm.py (n (i*2)) (n (i*2+1)) wd p vol=false\/vol=0):
  Calls prog 191 #[Rw F,Z i,.int .u32 s] W fun e W'=>e=.returned (.tuple #[Cw p vol (bm.py (n (i*2)) (n (i*2+1)) wd p vol) (.slice none 0 0),.nilIface])/\bB w W' F P I b v L pf (upd (upd n (i*2) (bm.pu (n (i*2)) (n (i*2+1)) wd p vol)) (i*2+1) (bm.px (n (i*2)) (n (i*2+1)) wd h p vol)) wd h/\bX W W' P I b v v:=by
 have hgw:=xL (hok.aO i hi);have hr:ah.aK (n (i*2)) 1 1000=true:=by
  have:=Cu.out
  simp only[bm.kC,Bool.and_eq_true]at this;exact this.1
 have CF:bm.od p vol=true:=by
  rcases kI.out with ⟨e1,e2,_⟩ | ⟨e1,e2,e3,_⟩
  .rw[e2];simp[bm.od]
  .simp[bm.od,ah.aK,e2,e3];omega
 have Mk:Hid (∀W' u,iJ W' u (L i)->iV W' 412 (ev 1) (ev 6) (ev 7)->Calls prog 220 #[u,Z (n (i*2))] W' fun e w'=>e=.returned (.tuple #[Z p,Z vol,.nilIface])/\U W' w'):=fun W' u hu oJ=>by
  refine(R6 u (L i) (n (i*2)) 412 (ev 1) (ev 6) (ev 7) W' hu oJ hgw hr).mono ?_;rintro e w' ⟨⟨p',agF,rfl,hw'⟩,hbl⟩;obtain⟨e1,e2⟩:=hw'.unique kI;rw[e1,e2];exact⟨rfl,hbl⟩
 have qF:=Y (fun W' (oJ:og W' 412 (ev 1))=>RB (n (i*2)) (n (i*2+1)) wd h p vol 412 (ev 1) W' oJ (by rw[Cu.out,Mh.out,CF];rfl));unfold qf eo at qF;clear hgw hr CF;generalize Ml:bm.pu (n (i*2)) (n (i*2+1)) wd p vol=nr at *;generalize hnl:bm.px (n (i*2)) (n (i*2+1)) wd h p vol=nl at *;generalize hno:bm.py (n (i*2)) (n (i*2+1)) wd p vol=no at *;clear Ml hnl hno;obtain⟨R,hR⟩:=aG W.heap.size;obtain⟨w1,d6⟩:=aG (W.alloc (.cells #[Z 0,Z 0,.bool false,.slice none 0 0] 296));have hb1:U W w1:=by rw[<- d6];exact aj
 have HR1:Hid (w1.heap[R]?=some (.cells #[Z 0,Z 0,.bool false,.slice none 0 0] 296 (0,0))):=by show _=_;rw[<- d6,<- hR];exact hNq _ _
 have i6:=Y (hF.later hb1);have kq:=Y (bX.of_below hb1 P I b v);have oK:=Y (F0 i hi i6);have lL:=Y (BI (b i) w.heap.size (v i) (L i) w1 (i6.aO i hi) (hok.aO i hi).len);have cb:=i6.xG hi;have HW1:=Y d6;have kP:=Y hR;clear hb1 d6 hR;go_enter func191,ntmps191
 go_wp2_with fail
 rw[HW1.out,kP.out];refine oK.mono ?_;rintro e w1 ⟨rfl,rfl⟩;simp only[]
 go_wp2_with fail
 refine lL.mono ?_;rintro e w2 ⟨v2,rfl,hrow2,hb2⟩;have xM:Hid (iJ w2 v2 (L i)):=KE hrow2;have dB:=Y (i6.later hb2);have HS2:=Y (kq.below hb2);have b_:=Y ((hb2.block _ (lBq HR1)).trans HR1);clear hrow2 hb2 cb;have Mm:=dB.KV hi;have kQ:=Y (Mk w2 v2 xM (dB.cp he).cp);obtain⟨sa,sm,sc,hv2⟩:=xM.form;subst hv2;simp only[]
 go_wp2_with fail
 refine kQ.mono ?_;rintro e w3 ⟨rfl,hb3⟩;have jq:=Y (dB.later hb3);have eJ:=Y (HS2.below hb3);have Mq:=Y (xM.later hb3);have HR3:=Y ((hb3.block _ (lBq b_)).trans b_);clear hb3 Mm;simp only[]
 go_wp2_with fail
 obtain⟨bl,val,hcl,ay⟩:=Ch F (I i) F (.cells (vz I P wd h) 210 (0,0)) (.cells (vA (b i) (n (i*2)) (n (i*2+1))) 267 (0,0)) (.cells (vz I P wd h) 210 (0,0));obtain⟨x0,hx0⟩:=ay w3.drew ⟨jq.blk,jq.it i hi,jq.blk⟩;have hnx:Nonempty bl:=⟨x0⟩;have en:=fun x=>ag (hcl x).2.1 1 rfl;have em:=fun x=>ag (hcl x).2.1 2 rfl;have Mr:=fun x=>ag (hcl x).1 0 rfl;have eh:=fun x=>ag (hcl x).1 1 rfl;have hbd:U w3 w3.drew:=⟨rfl,rfl,rfl,E _,fun _ _=>rfl⟩;have eR:=Y (jq.later hbd);have dL:=Y (eJ.below hbd);have CG:=Y (Mq.later hbd);have cO:Hid (w3.drew.heap[R]?=some (.cells #[Z 0,Z 0,.bool false,.slice none 0 0] 296 (0,0))):=HR3.out;obtain⟨w4,hw4⟩:=aG w3.drew;rw[hw4]at eR dL CG cO;have aH:Hid (∀W',U w4 W'->∃x,val x=W'):=fun W' hb=>ay W' ⟨(eR.later hb).blk,(eR.later hb).it i hi,(eR.later hb).blk⟩;have CH:Hid (∀W',U w4 W'->og W' 412 (ev 1)):=fun W' hb=>((eR.later hb).cp he).KS;clear ay hcl hbd;refine vB (val:=val) (fun D aA=>aA.heap[D]?=some (.cells #[Z nr,Z nl] 192 (0,0))/\w4.heap.size<=D/\U w4 aA) (.read 0 (.read 1 (.read 2 (.read 3 (.read 4 (.read 5 (.read 6 (.read 7 (.read 8 (.read 9 (.two 10 (.read 11 (.read 12 (.read 13 (.read 14 (.one 15 (.one 16 (.read 17 (.read 18 .done)))))))) 15 (.one 10 (.read 11 (.read 12 (.read 13 (.read 14 (.one 16 (.read 17 (.read 18 .done))))))))))))))))))) (by kernel_rfl) (by kernel_rfl) x0 hx0 ?_;apply Exists.intro;refine⟨?_,?_⟩
 case' refine_1 =>
  rw[hx0,hw4]
  iterate 10 (refine cF rfl (fun K hK=>?_);refine⟨by rfl,?_⟩;unfold aQ;go_simp;refine hK _ ?_;clear hK K)
  have iY:Hid (U w4 w4):=bRq _ _;refine⟨?_,?_⟩
  case refine_1 =>
   refine cq rfl (fun K hK=>?_);refine⟨by rfl,?_⟩;unfold aB;go_simp;refine(qF _ (CH _ iY)).mono ?_;rintro e wc ⟨rfl,hbc⟩;have gG:=Y (ar iY hbc);refine⟨_,rfl,aH _ gG,hK _ _ ?_⟩;clear hK K hbc
   iterate 4 (refine cF rfl (fun K hK=>?_);refine⟨by rfl,?_⟩;unfold aQ;go_simp;refine hK _ ?_;clear hK K)
   refine cq rfl (fun K hK=>?_);refine⟨by rfl,?_⟩;unfold aB;go_simp;obtain⟨D,hD⟩:=aG wc.heap.size;obtain⟨aD,hwz⟩:=aG (wc.alloc (.cells #[Z 0,Z 0] 192));rw[hD,hwz];have cA:Hid (U w4 aD):=by show Below _ _ _;rw[<- hwz];exact gG.alloc gG.size _
   have au:Hid (aD.heap[D]?=some (.cells #[Z 0,Z 0] 192 (0,0))):=by show _=_;rw[<- hwz,<- hD];exact hNq _ _
   have fW:Hid (w4.heap.size<=D):=by have:=gG.size;show _<=_;omega
   refine⟨aH _ cA,hK _ _ ?_⟩;clear hK K hwz hD;have c0:=ag au 0 rfl;have c1:=ag au 1 rfl;have f0:=aC au 0;have f1:=aC au 1;have HX:Hid (((aD.setCell (O D 0) (Z nr)).setCell (O D 1) (Z nl)).heap[D]?=some (.cells #[Z nr,Z nl] 192 (0,0))):=by
    have h0:(aD.setCell (O D 0) (Z nr)).heap[D]?=some (.cells #[Z nr,Z 0] 192 (0,0)):=by rw[setCell_eq_setRow aD D 0 _ _ _ _ au.out];exact setRow_heap aD D _ _ _ _ au
    show _=_;rw[setCell_eq_setRow _ D 1 _ _ _ _ h0];exact setRow_heap _ D _ _ _ _ h0
   have bk:Hid (U w4 ((aD.setCell (O D 0) (Z nr)).setCell (O D 1) (Z nl))):=(cA.setCell (p:=(O D 0)) fW _).setCell (p:=(O D 1)) fW _;refine cq rfl (fun K hK=>?_);refine⟨by rfl,?_⟩;unfold aB;go_simp;refine⟨aH _ bk,hK _ _ ?_⟩;clear hK K c0 c1 f0 f1;generalize (aD.setCell (O D 0) (Z nr)).setCell (O D 1) (Z nl)=aA at *
   iterate 2 (refine cF rfl (fun K hK=>?_);refine⟨by rfl,?_⟩;unfold aQ;go_simp;refine hK _ ?_;clear hK K)
   refine jR ?_;exact⟨D,rfl,HX,fW,bk⟩
  case refine_2 =>
   refine cq rfl (fun K hK=>?_);refine⟨by rfl,?_⟩;unfold aB;go_simp;obtain⟨D,hD⟩:=aG w4.heap.size;obtain⟨jl,hwz⟩:∃aD,w4.alloc (.cells #[Z 0,Z 0] 192)=aD:=⟨_,rfl⟩;rw[hD,hwz];have ez:Hid (U w4 jl):=by show Below _ _ _;rw[<- hwz];exact iY.alloc iY.size _
   have qu:Hid (jl.heap[D]?=some (.cells #[Z 0,Z 0] 192 (0,0))):=by show _=_;rw[<- hwz,<- hD];exact hNq _ _
   have fW:Hid (w4.heap.size<=D):=by have:=iY.size;show _<=_;omega
   refine⟨aH _ ez,hK _ _ ?_⟩;clear hK K hwz hD;refine cq rfl (fun K hK=>?_);refine⟨by rfl,?_⟩;unfold aB;go_simp;refine(qF _ (CH _ ez)).mono ?_;rintro e aD ⟨rfl,hbc⟩;have cA:=Y (ar ez hbc);have au:=Y ((hbc.block _ (lBq qu)).trans qu);refine⟨_,rfl,aH _ cA,hK _ _ ?_⟩;clear hK K hbc
   iterate 4 (refine cF rfl (fun K hK=>?_);refine⟨by rfl,?_⟩;unfold aQ;go_simp;refine hK _ ?_;clear hK K)
   have c0:=ag au 0 rfl;have c1:=ag au 1 rfl;have f0:=aC au 0;have f1:=aC au 1;have HX:Hid (((aD.setCell (O D 0) (Z nr)).setCell (O D 1) (Z nl)).heap[D]?=some (.cells #[Z nr,Z nl] 192 (0,0))):=by
    have h0:(aD.setCell (O D 0) (Z nr)).heap[D]?=some (.cells #[Z nr,Z 0] 192 (0,0)):=by rw[setCell_eq_setRow aD D 0 _ _ _ _ au.out];exact setRow_heap aD D _ _ _ _ au
    show _=_;rw[setCell_eq_setRow _ D 1 _ _ _ _ h0];exact setRow_heap _ D _ _ _ _ h0
   have bk:Hid (U w4 ((aD.setCell (O D 0) (Z nr)).setCell (O D 1) (Z nl))):=(cA.setCell (p:=(O D 0)) fW _).setCell (p:=(O D 1)) fW _;refine cq rfl (fun K hK=>?_);refine⟨by rfl,?_⟩;unfold aB;go_simp;refine⟨aH _ bk,hK _ _ ?_⟩;clear hK K c0 c1 f0 f1;generalize (aD.setCell (O D 0) (Z nr)).setCell (O D 1) (Z nl)=aA at *
   iterate 2 (refine cF rfl (fun K hK=>?_);refine⟨by rfl,?_⟩;unfold aQ;go_simp;refine hK _ ?_;clear hK K)
   refine jR ?_;exact⟨D,rfl,HX,fW,bk⟩
 intro D aA ⟨qw,qx,hb6⟩;have HX:=Y qw;have HDn:=Y qx;have gH:=Y (eR.later hb6);have ej:=Y (dL.below hb6);have UX:=Y (CG.later hb6);have bT:=Y ((hb6.block _ (lBq cO)).trans cO);clear qw qx hb6 hw4;clear hx0 en em Mr eh aH;clear x0 hnx;clear val;clear bl;have gZ:=Y (gH.it i hi);have d0:=ag HX 0 rfl;have d1:=ag HX 1 rfl;have i1:=ag gZ 1 rfl;have i2:=ag gZ 2 rfl;have j1:=aC gZ 1;have j2:=aC gZ 2;have r0:=ag bT 0 rfl;have r1:=ag bT 1 rfl;have r2:=ag bT 2 rfl;have r3:=ag bT 3 rfl;have q0:=aC bT 0;have q1:=aC bT 1;have q2:=aC bT 2;have q3:=aC bT 3;have xN:R<aA.heap.size:=lBq bT;have agS:I i<aA.heap.size:=lBq gZ;have hDl:D<aA.heap.size:=lBq HX;have agT:¬ R=aA.heap.size:=by omega
 have agU:¬ I i=aA.heap.size:=by omega
 have hDn:¬ D=aA.heap.size:=by omega
 have CP:R≠I i:=aN bT gZ (by decide);have agV:I i≠R:=Ne.symm CP;have agW:D≠I i:=aN HX gZ (by decide);have agX:D≠R:=aN HX bT (by decide);have xO:Hid (((aA.setCell ⟨I i,1,none⟩ (Z nr)).setCell ⟨I i,2,none⟩ (Z nl)).heap[I i]?=some (.cells (vA (b i) nr nl) 267 (0,0))):=by
  have h0:(aA.setCell ⟨I i,1,none⟩ (Z nr)).heap[I i]?=some (.cells #[.pointer (some ⟨b i,0,none⟩),Z nr,Z (n (i*2+1))] 267 (0,0)):=by rw[setCell_eq_setRow aA (I i) 1 _ _ _ _ gZ.out];exact setRow_heap aA (I i) _ _ _ _ gZ
  show _=_;rw[setCell_eq_setRow _ (I i) 2 _ _ _ _ h0];exact setRow_heap _ (I i) _ _ _ _ h0
 have gQ:=Y (gH.nG hi xO ((aU.setCell _ _ _ _).put _ _));have vD:=Y (ej.trans (bX.Uc hi ((aU.setCell aA (I i) 1 (Z nr)).put 2 (Z nl)) P b v));have fY:Hid (((aA.setCell ⟨I i,1,none⟩ (Z nr)).setCell ⟨I i,2,none⟩ (Z nl)).heap[R]?=some (.cells #[Z 0,Z 0,.bool false,.slice none 0 0] 296 (0,0))):=by show _=_;rw[((aU.setCell aA (I i) 1 (Z nr)).put 2 (Z nl)).block R xN CP];exact bT
 have CQ:Hid (w.heap.size<=R):=by have:=hF.bG.size;have:=kP.out;show _<=_;omega
 rcases hst with e | e
 .subst e
  generalize qH:(aA.setCell ⟨I i,1,none⟩ (Z nr)).setCell ⟨I i,2,none⟩ (Z nl)=dm at *;have jT:Hid (aU dm ((((dm.setCell (O R 0) (Z p)).setCell (O R 1) (Z vol)).setCell (O R 2) (.bool false)).setCell (O R 3) (.slice none 0 0)) R):=(((aU.setCell _ R 0 (Z p)).put 1 (Z vol)).put 2 (.bool false)).put 3 (.slice none 0 0);have mJ:=Y ((gQ.aside (aN fY gQ.blk (by decide)) (aN fY gQ.dJ (by decide)) (fun j hj=>⟨aN fY (gQ.it j hj) (by decide),aN fY (gQ.aO j hj).cell (by decide),jS (gQ.aO j hj).row fY (by decide)⟩) CQ jT).later ((bRq _ _).alloc (E _) (.cells #[Z p,Z vol,.bool false,.slice none 0 0] 296)));have oM:Hid (bX W (((((dm.setCell (O R 0) (Z p)).setCell (O R 1) (Z vol)).setCell (O R 2) (.bool false)).setCell (O R 3) (.slice none 0 0)).alloc (.cells #[Z p,Z vol,.bool false,.slice none 0 0] 296)) P I b v v):=(vD.newer jT (by rw[kP.out];exact E _)).below aj;have fD:Hid ((((((dm.setCell (O R 0) (Z p)).setCell (O R 1) (Z vol)).setCell (O R 2) (.bool false)).setCell (O R 3) (.slice none 0 0)).alloc (.cells #[Z p,Z vol,.bool false,.slice none 0 0] 296)).heap[R]?=some (.cells #[Z p,Z vol,.bool false,.slice none 0 0] 296 (0,0))):=(Below.heap_alloc _ _ _ (lBq (xP fY p vol false _))).trans (xP fY p vol false _);have qI:=Y qH;clear qH;go_wp2;rw[qI.out];generalize (((((dm.setCell (O R 0) (Z p)).setCell (O R 1) (Z vol)).setCell (O R 2) (.bool false)).setCell (O R 3) (.slice none 0 0)).alloc (.cells #[Z p,Z vol,.bool false,.slice none 0 0] 296))=Wf at *;have z0:=ag fD 0 rfl;have dw:=ag fD 1 rfl;have z2:=ag fD 2 rfl;have z3:=ag fD 3 rfl;exact bodyPost_ret (v:=.tuple #[.agg #[Z p,Z vol,.bool false,.slice none 0 0],.nilIface]) (by simp[results,results191,go_sem,z0,dw,z2,z3]) rfl ⟨rfl,mJ,oM⟩
 .subst e
  cases no
  .skip
   generalize qH:(aA.setCell ⟨I i,1,none⟩ (Z nr)).setCell ⟨I i,2,none⟩ (Z nl)=dm at *;have jT:Hid (aU dm ((((dm.setCell (O R 0) (Z p)).setCell (O R 1) (Z 0)).setCell (O R 2) (.bool false)).setCell (O R 3) (.slice none 0 0)) R):=(((aU.setCell _ R 0 (Z p)).put 1 (Z 0)).put 2 (.bool false)).put 3 (.slice none 0 0);have mJ:=Y ((gQ.aside (aN fY gQ.blk (by decide)) (aN fY gQ.dJ (by decide)) (fun j hj=>⟨aN fY (gQ.it j hj) (by decide),aN fY (gQ.aO j hj).cell (by decide),jS (gQ.aO j hj).row fY (by decide)⟩) CQ jT).later ((bRq _ _).alloc (E _) (.cells #[Z p,Z 0,.bool false,.slice none 0 0] 296)));have oM:Hid (bX W (((((dm.setCell (O R 0) (Z p)).setCell (O R 1) (Z 0)).setCell (O R 2) (.bool false)).setCell (O R 3) (.slice none 0 0)).alloc (.cells #[Z p,Z 0,.bool false,.slice none 0 0] 296)) P I b v v):=(vD.newer jT (by rw[kP.out];exact E _)).below aj;have fD:Hid ((((((dm.setCell (O R 0) (Z p)).setCell (O R 1) (Z 0)).setCell (O R 2) (.bool false)).setCell (O R 3) (.slice none 0 0)).alloc (.cells #[Z p,Z 0,.bool false,.slice none 0 0] 296)).heap[R]?=some (.cells #[Z p,Z 0,.bool false,.slice none 0 0] 296 (0,0))):=(Below.heap_alloc _ _ _ (lBq (xP fY p 0 false _))).trans (xP fY p 0 false _);have qI:=Y qH;clear qH;go_wp2;rw[qI.out];generalize (((((dm.setCell (O R 0) (Z p)).setCell (O R 1) (Z 0)).setCell (O R 2) (.bool false)).setCell (O R 3) (.slice none 0 0)).alloc (.cells #[Z p,Z 0,.bool false,.slice none 0 0] 296))=Wf at *;have z0:=ag fD 0 rfl;have dw:=ag fD 1 rfl;have z2:=ag fD 2 rfl;have z3:=ag fD 3 rfl;exact bodyPost_ret (v:=.tuple #[.agg #[Z p,Z 0,.bool false,.slice none 0 0],.nilIface]) (by simp[results,results191,go_sem,z0,dw,z2,z3]) rfl ⟨rfl,mJ,oM⟩
  .skip
   generalize qH:(aA.setCell ⟨I i,1,none⟩ (Z nr)).setCell ⟨I i,2,none⟩ (Z nl)=dm at *;have jT:Hid (aU dm ((((dm.setCell (O R 0) (Z p)).setCell (O R 1) (Z 0)).setCell (O R 2) (.bool true)).setCell (O R 3) (.slice none 0 0)) R):=(((aU.setCell _ R 0 (Z p)).put 1 (Z 0)).put 2 (.bool true)).put 3 (.slice none 0 0);have mJ:=Y ((gQ.aside (aN fY gQ.blk (by decide)) (aN fY gQ.dJ (by decide)) (fun j hj=>⟨aN fY (gQ.it j hj) (by decide),aN fY (gQ.aO j hj).cell (by decide),jS (gQ.aO j hj).row fY (by decide)⟩) CQ jT).later ((bRq _ _).alloc (E _) (.cells #[Z p,Z 0,.bool true,.slice none 0 0] 296)));have oM:Hid (bX W (((((dm.setCell (O R 0) (Z p)).setCell (O R 1) (Z 0)).setCell (O R 2) (.bool true)).setCell (O R 3) (.slice none 0 0)).alloc (.cells #[Z p,Z 0,.bool true,.slice none 0 0] 296)) P I b v v):=(vD.newer jT (by rw[kP.out];exact E _)).below aj;have fD:Hid ((((((dm.setCell (O R 0) (Z p)).setCell (O R 1) (Z 0)).setCell (O R 2) (.bool true)).setCell (O R 3) (.slice none 0 0)).alloc (.cells #[Z p,Z 0,.bool true,.slice none 0 0] 296)).heap[R]?=some (.cells #[Z p,Z 0,.bool true,.slice none 0 0] 296 (0,0))):=(Below.heap_alloc _ _ _ (lBq (xP fY p 0 true _))).trans (xP fY p 0 true _);have qI:=Y qH;clear qH;go_wp2;rw[qI.out];generalize (((((dm.setCell (O R 0) (Z p)).setCell (O R 1) (Z 0)).setCell (O R 2) (.bool true)).setCell (O R 3) (.slice none 0 0)).alloc (.cells #[Z p,Z 0,.bool true,.slice none 0 0] 296))=Wf at *;have z0:=ag fD 0 rfl;have dw:=ag fD 1 rfl;have z2:=ag fD 2 rfl;have z3:=ag fD 3 rfl;exact bodyPost_ret (v:=.tuple #[.agg #[Z p,Z 0,.bool true,.slice none 0 0],.nilIface]) (by simp[results,results191,go_sem,z0,dw,z2,z3]) rfl ⟨rfl,mJ,oM⟩
end
section
variable {w W:World} {F P:Nat} {I b:Nat->Nat} {v:Nat->Value} {L:Nat->List Cv.af} {pf n:Nat->Int} {wd h:Int} {ev:Nat->Value}
theorem agA(i:Nat)(hi:i<3)(s p vol:Int)(hs:Hid (Ra.IsU s))(hF:Hid (bB w W F P I b v L pf n wd h))(he:Hid (eQ w ev))(hok:Hid (Fs.dI L pf))(Cu:Hid (bm.kC (n (i*2)) (n (i*2+1))=true))(Mh:Hid (bm.jK wd h=true))(kI:Hid (Cv.fj (L i) (n (i*2)) 1000 p vol))(hno:bm.py (n (i*2)) (n (i*2+1)) wd p vol=true)(agB:0<vol):
  Calls prog 191 #[Rw F,Z i,.int .u32 s] W fun e W'=>∃jo v',e=.returned (.tuple #[Cw p vol true jo,.nilIface])/\bB w W' F P I b v' (upd L i (Fs.iB (Ra.fills s (L i) p vol) (L i))) (Fs.iw pf i p (L i) (Ra.fills s (L i) p vol)) (upd (upd n (i*2) (bm.pu (n (i*2)) (n (i*2+1)) wd p vol)) (i*2+1) (bm.px (n (i*2)) (n (i*2+1)) wd h p vol)) wd h/\bX W W' P I b v v'/\gI W' jo (Ra.fills s (L i) p vol)/\Fs.dI (upd L i (Fs.iB (Ra.fills s (L i) p vol) (L i))) (Fs.iw pf i p (L i) (Ra.fills s (L i) p vol)):=by
 have qE:=Fs.Cx (xL (hok.aO i hi)) kI agB;have agC:=Y qE;obtain⟨bu,tE⟩:=aG (Ra.fills s (L i) p vol);have Mi:=Fs.FY qE s;rw[tE]at Mi;have hlen:bu.length<=200:=by rw[<- tE];unfold Ra.fills;have sS:=(hok.aO i hi).len;have h1:=Ra.Cy s (hok.aO i hi).oks 0 p vol qE.2.1.1 qE.2.1.2 qE.2.2.1;have h2:=Ra.Cy (Ra.tF s) (hok.aO i hi).oks 1 p vol qE.2.1.1 qE.2.1.2 qE.2.2.1;rw[lAq];omega
 have hnil:bu≠[]:=fun e=>by
  have hsum:=Ra.Mj qE s 0 (.inl rfl);rw[tE,e,Fs.FZ,Fs.Cz (fun x _=>by show (if x.sd=0 then (0:Int) else 0)=0;split <;> rfl)]at hsum;omega
 have agD:=Y Mi;have HLen:=Y hlen;have agE:=Y hnil;have zU:=Y tE;have CB:=Y qE.2.1;rw[tE];clear Mi hlen hnil tE qE;have hgw:=xL (hok.aO i hi);have hr:ah.aK (n (i*2)) 1 1000=true:=by
  have:=Cu.out
  simp only[bm.kC,Bool.and_eq_true]at this;exact this.1
 have CF:bm.od p vol=true:=by
  rcases kI.out with ⟨e1,e2,_⟩ | ⟨e1,e2,e3,_⟩
  .rw[e2];simp[bm.od]
  .simp[bm.od,ah.aK,e2,e3];omega
 have Mk:Hid (∀W' u,iJ W' u (L i)->iV W' 412 (ev 1) (ev 6) (ev 7)->Calls prog 220 #[u,Z (n (i*2))] W' fun e w'=>e=.returned (.tuple #[Z p,Z vol,.nilIface])/\U W' w'):=fun W' u hu oJ=>by
  refine(R6 u (L i) (n (i*2)) 412 (ev 1) (ev 6) (ev 7) W' hu oJ hgw hr).mono ?_;rintro e w' ⟨⟨p',agF,rfl,hw'⟩,hbl⟩;obtain⟨e1,e2⟩:=hw'.unique kI;rw[e1,e2];exact⟨rfl,hbl⟩
 have qF:=Y (fun W' (oJ:og W' 412 (ev 1))=>RB (n (i*2)) (n (i*2+1)) wd h p vol 412 (ev 1) W' oJ (by rw[Cu.out,Mh.out,CF];rfl));unfold qf eo at qF;clear hgw hr CF;generalize Ml:bm.pu (n (i*2)) (n (i*2+1)) wd p vol=nr at *;generalize hnl:bm.px (n (i*2)) (n (i*2+1)) wd h p vol=nl at *;rw[hno]at qF;clear Ml hnl hno;obtain⟨R,hR⟩:=aG W.heap.size;obtain⟨w1,d6⟩:=aG (W.alloc (.cells #[Z 0,Z 0,.bool false,.slice none 0 0] 296));have hb1:U W w1:=by rw[<- d6];exact aj
 have HR1:Hid (w1.heap[R]?=some (.cells #[Z 0,Z 0,.bool false,.slice none 0 0] 296 (0,0))):=by show _=_;rw[<- d6,<- hR];exact hNq _ _
 have i6:=Y (hF.later hb1);have kq:=Y (bX.of_below hb1 P I b v);have oK:=Y (F0 i hi i6);have lL:=Y (BI (b i) w.heap.size (v i) (L i) w1 (i6.aO i hi) (hok.aO i hi).len);have cb:=i6.xG hi;have HW1:=Y d6;have kP:=Y hR;clear hb1 d6 hR;go_enter func191,ntmps191
 go_wp2_with fail
 rw[HW1.out,kP.out];refine oK.mono ?_;rintro e w1 ⟨rfl,rfl⟩;simp only[]
 go_wp2_with fail
 refine lL.mono ?_;rintro e w2 ⟨v2,rfl,hrow2,hb2⟩;have xM:Hid (iJ w2 v2 (L i)):=KE hrow2;have dB:=Y (i6.later hb2);have HS2:=Y (kq.below hb2);have b_:=Y ((hb2.block _ (lBq HR1)).trans HR1);clear hrow2 hb2 cb;have Mm:=dB.KV hi;have kQ:=Y (Mk w2 v2 xM (dB.cp he).cp);obtain⟨sa,sm,sc,hv2⟩:=xM.form;subst hv2;simp only[]
 go_wp2_with fail
 refine kQ.mono ?_;rintro e w3 ⟨rfl,hb3⟩;have jq:=Y (dB.later hb3);have eJ:=Y (HS2.below hb3);have Mq:=Y (xM.later hb3);have HR3:=Y ((hb3.block _ (lBq b_)).trans b_);clear hb3 Mm;simp only[]
 go_wp2_with fail
 obtain⟨bl,val,hcl,ay⟩:=Ch F (I i) F (.cells (vz I P wd h) 210 (0,0)) (.cells (vA (b i) (n (i*2)) (n (i*2+1))) 267 (0,0)) (.cells (vz I P wd h) 210 (0,0));obtain⟨x0,hx0⟩:=ay w3.drew ⟨jq.blk,jq.it i hi,jq.blk⟩;have hnx:Nonempty bl:=⟨x0⟩;have en:=fun x=>ag (hcl x).2.1 1 rfl;have em:=fun x=>ag (hcl x).2.1 2 rfl;have Mr:=fun x=>ag (hcl x).1 0 rfl;have eh:=fun x=>ag (hcl x).1 1 rfl;have hbd:U w3 w3.drew:=⟨rfl,rfl,rfl,E _,fun _ _=>rfl⟩;have eR:=Y (jq.later hbd);have dL:=Y (eJ.below hbd);have CG:=Y (Mq.later hbd);have cO:Hid (w3.drew.heap[R]?=some (.cells #[Z 0,Z 0,.bool false,.slice none 0 0] 296 (0,0))):=HR3.out;obtain⟨w4,hw4⟩:=aG w3.drew;rw[hw4]at eR dL CG cO;have aH:Hid (∀W',U w4 W'->∃x,val x=W'):=fun W' hb=>ay W' ⟨(eR.later hb).blk,(eR.later hb).it i hi,(eR.later hb).blk⟩;have CH:Hid (∀W',U w4 W'->og W' 412 (ev 1)):=fun W' hb=>((eR.later hb).cp he).KS;clear ay hcl hbd;refine vB (val:=val) (fun D aA=>aA.heap[D]?=some (.cells #[Z nr,Z nl] 192 (0,0))/\w4.heap.size<=D/\U w4 aA) (.read 0 (.read 1 (.read 2 (.read 3 (.read 4 (.read 5 (.read 6 (.read 7 (.read 8 (.read 9 (.two 10 (.read 11 (.read 12 (.read 13 (.read 14 (.one 15 (.one 16 (.read 17 (.read 18 .done)))))))) 15 (.one 10 (.read 11 (.read 12 (.read 13 (.read 14 (.one 16 (.read 17 (.read 18 .done))))))))))))))))))) (by kernel_rfl) (by kernel_rfl) x0 hx0 ?_;apply Exists.intro;refine⟨?_,?_⟩
 case' refine_1 =>
  rw[hx0,hw4]
  iterate 10 (refine cF rfl (fun K hK=>?_);refine⟨by rfl,?_⟩;unfold aQ;go_simp;refine hK _ ?_;clear hK K)
  have iY:Hid (U w4 w4):=bRq _ _;refine⟨?_,?_⟩
  case refine_1 =>
   refine cq rfl (fun K hK=>?_);refine⟨by rfl,?_⟩;unfold aB;go_simp;refine(qF _ (CH _ iY)).mono ?_;rintro e wc ⟨rfl,hbc⟩;have gG:=Y (ar iY hbc);refine⟨_,rfl,aH _ gG,hK _ _ ?_⟩;clear hK K hbc
   iterate 4 (refine cF rfl (fun K hK=>?_);refine⟨by rfl,?_⟩;unfold aQ;go_simp;refine hK _ ?_;clear hK K)
   refine cq rfl (fun K hK=>?_);refine⟨by rfl,?_⟩;unfold aB;go_simp;obtain⟨D,hD⟩:=aG wc.heap.size;obtain⟨aD,hwz⟩:=aG (wc.alloc (.cells #[Z 0,Z 0] 192));rw[hD,hwz];have cA:Hid (U w4 aD):=by show Below _ _ _;rw[<- hwz];exact gG.alloc gG.size _
   have au:Hid (aD.heap[D]?=some (.cells #[Z 0,Z 0] 192 (0,0))):=by show _=_;rw[<- hwz,<- hD];exact hNq _ _
   have fW:Hid (w4.heap.size<=D):=by have:=gG.size;show _<=_;omega
   refine⟨aH _ cA,hK _ _ ?_⟩;clear hK K hwz hD;have c0:=ag au 0 rfl;have c1:=ag au 1 rfl;have f0:=aC au 0;have f1:=aC au 1;have HX:Hid (((aD.setCell (O D 0) (Z nr)).setCell (O D 1) (Z nl)).heap[D]?=some (.cells #[Z nr,Z nl] 192 (0,0))):=by
    have h0:(aD.setCell (O D 0) (Z nr)).heap[D]?=some (.cells #[Z nr,Z 0] 192 (0,0)):=by rw[setCell_eq_setRow aD D 0 _ _ _ _ au.out];exact setRow_heap aD D _ _ _ _ au
    show _=_;rw[setCell_eq_setRow _ D 1 _ _ _ _ h0];exact setRow_heap _ D _ _ _ _ h0
   have bk:Hid (U w4 ((aD.setCell (O D 0) (Z nr)).setCell (O D 1) (Z nl))):=(cA.setCell (p:=(O D 0)) fW _).setCell (p:=(O D 1)) fW _;refine cq rfl (fun K hK=>?_);refine⟨by rfl,?_⟩;unfold aB;go_simp;refine⟨aH _ bk,hK _ _ ?_⟩;clear hK K c0 c1 f0 f1;generalize (aD.setCell (O D 0) (Z nr)).setCell (O D 1) (Z nl)=aA at *
   iterate 2 (refine cF rfl (fun K hK=>?_);refine⟨by rfl,?_⟩;unfold aQ;go_simp;refine hK _ ?_;clear hK K)
   refine jR ?_;exact⟨D,rfl,HX,fW,bk⟩
  case refine_2 =>
   refine cq rfl (fun K hK=>?_);refine⟨by rfl,?_⟩;unfold aB;go_simp;obtain⟨D,hD⟩:=aG w4.heap.size;obtain⟨jl,hwz⟩:∃aD,w4.alloc (.cells #[Z 0,Z 0] 192)=aD:=⟨_,rfl⟩;rw[hD,hwz];have ez:Hid (U w4 jl):=by show Below _ _ _;rw[<- hwz];exact iY.alloc iY.size _
   have qu:Hid (jl.heap[D]?=some (.cells #[Z 0,Z 0] 192 (0,0))):=by show _=_;rw[<- hwz,<- hD];exact hNq _ _
   have fW:Hid (w4.heap.size<=D):=by have:=iY.size;show _<=_;omega
   refine⟨aH _ ez,hK _ _ ?_⟩;clear hK K hwz hD;refine cq rfl (fun K hK=>?_);refine⟨by rfl,?_⟩;unfold aB;go_simp;refine(qF _ (CH _ ez)).mono ?_;rintro e aD ⟨rfl,hbc⟩;have cA:=Y (ar ez hbc);have au:=Y ((hbc.block _ (lBq qu)).trans qu);refine⟨_,rfl,aH _ cA,hK _ _ ?_⟩;clear hK K hbc
   iterate 4 (refine cF rfl (fun K hK=>?_);refine⟨by rfl,?_⟩;unfold aQ;go_simp;refine hK _ ?_;clear hK K)
   have c0:=ag au 0 rfl;have c1:=ag au 1 rfl;have f0:=aC au 0;have f1:=aC au 1;have HX:Hid (((aD.setCell (O D 0) (Z nr)).setCell (O D 1) (Z nl)).heap[D]?=some (.cells #[Z nr,Z nl] 192 (0,0))):=by
    have h0:(aD.setCell (O D 0) (Z nr)).heap[D]?=some (.cells #[Z nr,Z 0] 192 (0,0)):=by rw[setCell_eq_setRow aD D 0 _ _ _ _ au.out];exact setRow_heap aD D _ _ _ _ au
    show _=_;rw[setCell_eq_setRow _ D 1 _ _ _ _ h0];exact setRow_heap _ D _ _ _ _ h0
   have bk:Hid (U w4 ((aD.setCell (O D 0) (Z nr)).setCell (O D 1) (Z nl))):=(cA.setCell (p:=(O D 0)) fW _).setCell (p:=(O D 1)) fW _;refine cq rfl (fun K hK=>?_);refine⟨by rfl,?_⟩;unfold aB;go_simp;refine⟨aH _ bk,hK _ _ ?_⟩;clear hK K c0 c1 f0 f1;generalize (aD.setCell (O D 0) (Z nr)).setCell (O D 1) (Z nl)=aA at *
   iterate 2 (refine cF rfl (fun K hK=>?_);refine⟨by rfl,?_⟩;unfold aQ;go_simp;refine hK _ ?_;clear hK K)
   refine jR ?_;exact⟨D,rfl,HX,fW,bk⟩
 intro D aA ⟨qw,qx,hb6⟩;have HX:=Y qw;have HDn:=Y qx;have gH:=Y (eR.later hb6);have ej:=Y (dL.below hb6);have UX:=Y (CG.later hb6);have bT:=Y ((hb6.block _ (lBq cO)).trans cO);clear qw qx hb6 hw4;clear hx0 en em Mr eh aH;clear x0 hnx;clear val;clear bl;obtain⟨Eqq,hE⟩:=aG aA.heap.size;obtain⟨dH,rM⟩:=aG (aA.alloc (.cells #[Z p,Z vol,.bool true,.slice none 0 0] 296));have lQ:U aA dH:=by rw[<- rM];exact aj
 have UY:Hid (dH.heap[Eqq]?=some (.cells #[Z p,Z vol,.bool true,.slice none 0 0] 296 (0,0))):=by show _=_;rw[<- rM,<- hE];exact hNq _ _
 have mH:=Y (gH.later lQ);have lV:=Y (ej.below lQ);have agG:=Y (UX.later lQ);have ew:=Y ((lQ.block _ (lBq bT)).trans bT);have pG:=Y ((lQ.block _ (lBq HX)).trans HX);have tG:Hid (R≠Eqq):=fun e=>by have:=lBq bT;omega
 have UZ:Hid (W.heap.size<=Eqq):=by have:=ej.size;show _<=_;omega
 have vI:=Y (agH (.slice sa sm sc) (L i) p vol s 412 (ev 1) (ev 2) (ev 6) (ev 7) dH agG (mH.cp he).cp (mH.cp he).c2 agC hs);rw[zU.out]at vI;have agI:=Y rM;have agJ:=Y hE;clear lQ rM hE
 go_wp2_with fail
 rw[agI.out,agJ.out];refine vI.mono ?_;rintro e fJ ⟨jo,rfl,CJ,rV⟩;have pO:=Y (mH.later rV);have pP:=Y (lV.below rV);have xz:=Y ((rV.block _ (lBq ew)).trans ew);have CK:=Y ((rV.block _ (lBq pG)).trans pG);have qG:=Y ((rV.block _ (lBq UY)).trans UY);have U0:=Y CJ;clear CJ rV;obtain⟨lB,lY,ov⟩:=U0.val;obtain⟨rW,Ms⟩:=aG bu.length;rw[Ms]at ov;subst ov;clear Ms;have e3:=ag qG 3 rfl;have g3:=aC qG 3;obtain⟨jP,F2⟩:=aG (fJ.setCell (O Eqq 3) (.slice lB rW lY));have ly:aU fJ jP Eqq:=by rw[<- F2];exact aU.setCell _ _ _ _
 have U1:Hid (jP.heap[Eqq]?=some (.cells #[Z p,Z vol,.bool true,.slice lB rW lY] 296 (0,0))):=by show _=_;rw[<- F2,setCell_eq_setRow _ Eqq 3 _ _ _ _ qG.out];exact setRow_heap _ Eqq _ _ _ _ qG
 have vK:=Y (pO.aside (aN qG pO.blk (by decide)) (aN qG pO.dJ (by decide)) (fun j hj=>⟨aN qG (pO.it j hj) (by decide),aN qG (pO.aO j hj).cell (by decide),jS (pO.aO j hj).row qG (by decide)⟩) (lTq hF.bG.size UZ) ly);have F3:=Y (pP.newer ly UZ);have CL:=Y ((ly.block _ (lBq xz) tG).trans xz);have agK:=Y ((ly.block _ (lBq CK) (aN CK qG (by decide))).trans CK);have agL:=Y (U0.save ly qG (by decide));have F4:=ag U1 3 rfl;have agM:=Y F2;have HST:=Y (agN i hi p (.slice lB rW lY) bu vK he hok agD CB.1 CB.2 agL HLen agE);have agO:=Y F4;clear ly F2 F4;simp only[]
 go_wp2_with fail
 rw[agM.out];have F4:=agO.out
 go_wp2_with fail
 refine HST.mono ?_;rintro e wt ⟨rfl,v10,U2,Mt,BZ,U3⟩;have F5:∀{q:Nat} {a:Array Value} {T:TypeId},jP.heap[q]?=some (.cells a T (0,0))->T≠197->T≠213->T≠267->T≠276->wt.heap[q]?=some (.cells a T (0,0)):=fun {q a T} hq h1 h2 h3 h4=>by
  rw[Mt.keep q (lBq hq) (aN hq vK.out.dJ h2) (fun j hj=>⟨aN hq (vK.out.it j hj) h3,aN hq (vK.out.aO j hj).cell h4,jS (vK.out.aO j hj).row hq h1⟩)];exact hq
 have CM:Hid (wt.heap[Eqq]?=some (.cells #[Z p,Z vol,.bool true,.slice lB rW lY] 296 (0,0))):=F5 U1 (by decide) (by decide) (by decide) (by decide);have oL:Hid (wt.heap[R]?=some (.cells #[Z 0,Z 0,.bool false,.slice none 0 0] 296 (0,0))):=F5 CL (by decide) (by decide) (by decide) (by decide);have CO:Hid (wt.heap[D]?=some (.cells #[Z nr,Z nl] 192 (0,0))):=F5 agK (by decide) (by decide) (by decide) (by decide);have U4:=Y U2;have agP:=Y (F3.trans Mt);have agQ:=Y BZ;have agR:=Y U3;clear F5 U2 Mt BZ U3
 try clear e3 g3
 try clear F4
 have gZ:=Y (U4.it i hi);have d0:=ag CO 0 rfl;have d1:=ag CO 1 rfl;have i1:=ag gZ 1 rfl;have i2:=ag gZ 2 rfl;have j1:=aC gZ 1;have j2:=aC gZ 2;have r0:=ag oL 0 rfl;have r1:=ag oL 1 rfl;have r2:=ag oL 2 rfl;have r3:=ag oL 3 rfl;have q0:=aC oL 0;have q1:=aC oL 1;have q2:=aC oL 2;have q3:=aC oL 3;have xN:R<wt.heap.size:=lBq oL;have agS:I i<wt.heap.size:=lBq gZ;have hDl:D<wt.heap.size:=lBq CO;have agT:¬ R=wt.heap.size:=by omega
 have agU:¬ I i=wt.heap.size:=by omega
 have hDn:¬ D=wt.heap.size:=by omega
 have CP:R≠I i:=aN oL gZ (by decide);have agV:I i≠R:=Ne.symm CP;have agW:D≠I i:=aN CO gZ (by decide);have agX:D≠R:=aN CO oL (by decide);have e0:=ag CM 0 rfl;have e1:=ag CM 1 rfl;have e2:=ag CM 2 rfl;have e3:=ag CM 3 rfl;have as9:Eqq≠I i:=aN CM gZ (by decide);have ata:Eqq≠R:=Ne.symm tG;have xO:Hid (((wt.setCell ⟨I i,1,none⟩ (Z nr)).setCell ⟨I i,2,none⟩ (Z nl)).heap[I i]?=some (.cells (vA (b i) nr nl) 267 (0,0))):=by
  have h0:(wt.setCell ⟨I i,1,none⟩ (Z nr)).heap[I i]?=some (.cells #[.pointer (some ⟨b i,0,none⟩),Z nr,Z (n (i*2+1))] 267 (0,0)):=by rw[setCell_eq_setRow wt (I i) 1 _ _ _ _ gZ.out];exact setRow_heap wt (I i) _ _ _ _ gZ
  show _=_;rw[setCell_eq_setRow _ (I i) 2 _ _ _ _ h0];exact setRow_heap _ (I i) _ _ _ _ h0
 have gQ:=Y (U4.nG hi xO ((aU.setCell _ _ _ _).put _ _));have vD:=Y (agP.trans (bX.Uc hi ((aU.setCell wt (I i) 1 (Z nr)).put 2 (Z nl)) P b v10));have fY:Hid (((wt.setCell ⟨I i,1,none⟩ (Z nr)).setCell ⟨I i,2,none⟩ (Z nl)).heap[R]?=some (.cells #[Z 0,Z 0,.bool false,.slice none 0 0] 296 (0,0))):=by show _=_;rw[((aU.setCell wt (I i) 1 (Z nr)).put 2 (Z nl)).block R xN CP];exact oL
 have agY:=Y (agQ.save ((aU.setCell wt (I i) 1 (Z nr)).put 2 (Z nl)) gZ (by decide));have CQ:Hid (w.heap.size<=R):=by have:=hF.bG.size;have:=kP.out;show _<=_;omega
 generalize qH:(wt.setCell ⟨I i,1,none⟩ (Z nr)).setCell ⟨I i,2,none⟩ (Z nl)=dm at *;have qI:=Y qH;clear qH;have jT:Hid (aU dm ((((dm.setCell (O R 0) (Z p)).setCell (O R 1) (Z vol)).setCell (O R 2) (.bool true)).setCell (O R 3) (.slice lB rW lY)) R):=(((aU.setCell _ R 0 (Z p)).put 1 (Z vol)).put 2 (.bool true)).put 3 (.slice lB rW lY);have mJ:=Y (gQ.aside (aN fY gQ.blk (by decide)) (aN fY gQ.dJ (by decide)) (fun j hj=>⟨aN fY (gQ.it j hj) (by decide),aN fY (gQ.aO j hj).cell (by decide),jS (gQ.aO j hj).row fY (by decide)⟩) CQ jT);have oM:=Y (vD.newer jT (by rw[kP.out];exact E _));have agZ:=Y (agY.save jT fY (by decide));have fD:Hid (((((dm.setCell (O R 0) (Z p)).setCell (O R 1) (Z vol)).setCell (O R 2) (.bool true)).setCell (O R 3) (.slice lB rW lY)).heap[R]?=some (.cells #[Z p,Z vol,.bool true,.slice lB rW lY] 296 (0,0))):=xP fY p vol true _;simp only[];go_wp2;rw[qI.out];generalize ((((dm.setCell (O R 0) (Z p)).setCell (O R 1) (Z vol)).setCell (O R 2) (.bool true)).setCell (O R 3) (.slice lB rW lY))=Wf at *;have z0:=ag fD 0 rfl;have dw:=ag fD 1 rfl;have z2:=ag fD 2 rfl;have z3:=ag fD 3 rfl;exact bodyPost_ret (v:=.tuple #[.agg #[Z p,Z vol,.bool true,.slice lB rW lY],.nilIface]) (by simp[results,results191,go_sem,z0,dw,z2,z3]) rfl ⟨_,_,rfl,mJ,oM,agZ,agR⟩
end
structure dc (L:Nat->List Cv.af) (pf n:Nat->Int) (wd h:Int):Prop where
 ok:Fs.dI L pf
 nG:∀i,i<3->bm.kC (n (i*2)) (n (i*2+1))=true
 rule:bm.jK wd h=true
namespace Fl
def mK(L:Nat->List Cv.af)(i:Nat)(bu:List (Int×Int)):Nat->List Cv.af:=upd L i (Fs.iB bu (L i))
def runN(n:Nat->Int)(i:Nat)(wd h p vol:Int):Nat->Int:=upd (upd n (i*2) (bm.pu (n (i*2)) (n (i*2+1)) wd p vol)) (i*2+1) (bm.px (n (i*2)) (n (i*2+1)) wd h p vol)
def pQ(n:Nat->Int)(i:Nat)(wd p vol:Int):Bool:=bm.py (n (i*2)) (n (i*2+1)) wd p vol
end Fl
theorem ahb{r l wd h p v:Int}(hb:bm.kC r l=true)(hr:bm.jK wd h=true)(hp:0<v->1<=p/\p<=1000):bm.kC (bm.pu r l wd p v) (bm.px r l wd h p v)=true:=by
 simp only[bm.kC,bm.jK,ah.aK,Bool.and_eq_true,decide_eq_true_eq]at *;unfold bm.pu bm.px;by_cases h1:0<l
 .rw[if_pos h1,if_pos h1]
  split
  .have:=hp (by omega);omega
  .omega
 .rw[if_neg h1,if_neg h1]
  by_cases h2:0<v
  .have:=hp h2
   cases bm.xg wd r p <;> simp[h2] <;> omega
  .simp[h2];omega
theorem dc.run{L:Nat->List Cv.af}{pf n:Nat->Int}{wd h:Int}(H:dc L pf n wd h){i:Nat}(hi:i<3){p vol:Int}(hw:Cv.fj (L i) (n (i*2)) 1000 p vol){L':Nat->List Cv.af}{pR:Nat->Int}(ho:Fs.dI L' pR):dc L' pR (Fl.runN n i wd h p vol) wd h:=by
 refine⟨ho,fun j hj=>?_,H.rule⟩;unfold Fl.runN;by_cases e:j=i
 .subst e
  rw[upd_same,upd_ne _ _ (by omega),upd_same];refine ahb (H.nG j hj) H.rule (fun hv=>?_);rcases hw with ⟨_,e2,_⟩ | ⟨_,e2,e3,_⟩
  .omega
  .exact⟨e2,e3⟩
 .rw[upd_ne _ _ (by omega),upd_ne _ _ (by omega),upd_ne _ _ (by omega),upd_ne _ _ (by omega)]
  exact H.nG j hj
section
variable {w W:World} {F P:Nat} {I b:Nat->Nat} {v:Nat->Value} {L:Nat->List Cv.af} {pf n:Nat->Int} {wd h:Int} {ev:Nat->Value}
theorem Ge(i:Nat)(hi:i<3)(s p vol:Int)(hs:Ra.IsU s)(hF:bB w W F P I b v L pf n wd h)(he:eQ w ev)(H:dc L pf n wd h)(kI:Cv.fj (L i) (n (i*2)) 1000 p vol):
  Calls prog 191 #[Rw F,Z i,.int .u32 s] W fun e W'=>∃jo v',e=.returned (.tuple #[Cw p vol (Fl.pQ n i wd p vol) jo,.nilIface]) /\
   bB w W' F P I b v' (Fl.mK L i (Fl.mL s (L i) (Fl.pQ n i wd p vol) p vol)) (Fs.iw pf i p (L i) (Fl.mL s (L i) (Fl.pQ n i wd p vol) p vol)) (Fl.runN n i wd h p vol) wd h/\bX W W' P I b v v' /\
   gI W' jo (Fl.mL s (L i) (Fl.pQ n i wd p vol) p vol)/\dc (Fl.mK L i (Fl.mL s (L i) (Fl.pQ n i wd p vol) p vol)) (Fs.iw pf i p (L i) (Fl.mL s (L i) (Fl.pQ n i wd p vol) p vol)) (Fl.runN n i wd h p vol) wd h:=by
 have hv0:=(kI.range (by decide)).2.2;by_cases hc:Fl.pQ n i wd p vol=true/\0<vol
 .have e:Fl.mL s (L i) (Fl.pQ n i wd p vol) p vol=Ra.fills s (L i) p vol:=by unfold Fl.mL;rw[if_pos hc]
  rw[e,hc.1];refine(agA i hi s p vol hs hF he H.ok (H.nG i hi) H.rule kI hc.1 hc.2).mono ?_;rintro e W' ⟨jo,v',rfl,h1,h2,h3,h4⟩;exact⟨jo,v',rfl,h1,h2,h3,H.run hi kI h4⟩
 .have e:Fl.mL s (L i) (Fl.pQ n i wd p vol) p vol=[]:=by unfold Fl.mL;rw[if_neg hc]
  have hst:bm.py (n (i*2)) (n (i*2+1)) wd p vol=false\/vol=0:=by
   cases ho:bm.py (n (i*2)) (n (i*2+1)) wd p vol with
   | false=>exact .inl rfl
   | true=>exact .inr (by have:¬ 0<vol:=fun hv=>hc ⟨ho,hv⟩;omega)
  have e2:Fl.mK L i []=L:=by unfold Fl.mK;rw[Fs.zY (H.ok.aO i hi).oks,pB]
  rw[e,e2,Fs.MG];refine(ahc i hi s p vol hF he H.ok (H.nG i hi) H.rule kI hst).mono ?_;rintro e W' ⟨rfl,h1,h2⟩;exact⟨_,v,rfl,h1,h2,.inl ⟨rfl,none,0,rfl⟩,H.run hi kI H.ok⟩
end
theorem afJ(a b c:Option Addr)(w:World):(Instr.index 208 (.agg #[.pointer a,.pointer b,.pointer c]) (Z 0)).run prog w=.ok (.pointer a) w:=by kernel_rfl
theorem afK(a b c:Option Addr)(w:World):(Instr.index 208 (.agg #[.pointer a,.pointer b,.pointer c]) (Z 1)).run prog w=.ok (.pointer b) w:=by kernel_rfl
theorem afL(a b c:Option Addr)(w:World):(Instr.index 208 (.agg #[.pointer a,.pointer b,.pointer c]) (Z 2)).run prog w=.ok (.pointer c) w:=by kernel_rfl
theorem afM(I:Nat->Nat){i:Nat}(hi:i<3)(w:World):(Instr.index 208 (.agg #[.pointer (some ⟨I 0,0,none⟩),.pointer (some ⟨I 1,0,none⟩),.pointer (some ⟨I 2,0,none⟩)]) (Z i)).run prog w=.ok (.pointer (some ⟨I i,0,none⟩)) w:=by
 match i,hi with
 | 0,_=>exact afJ _ _ _ w
 | 1,_=>exact afK _ _ _ w
 | 2,_=>exact afL _ _ _ w
def afN(w W W':World)(e:Ending)(F P:Nat)(I b:Nat->Nat)(v:Nat->Value)(L:Nat->List Cv.af)(pf n:Nat->Int)(wd h c:Int):Prop:=∃u v',e=.returned u/\W'.ownsRow W.heap.size 197 5 u (Fl.mF c L 3).length (flat (Fl.mF c L 3))/\bB w W' F P I b v' (Fl.kO c L 3) (Fl.pC c L pf 3) n wd h/\bX W W' P I b v v'/\Fs.dI (Fl.kO c L 3) (Fl.pC c L pf 3)
structure Gone (W0 W:World) (b:Nat->Nat) (v:Nat->Value) (u:Value) (out:List Cv.af):Prop where
 row:W.ownsRow W0.heap.size 197 5 u out.length (flat out)
 ap:∀j,j<3->∀k,u.ownBlock=some k->(v j).ownBlock≠some k
section
variable {w W0 W W':World} {F P:Nat} {I b:Nat->Nat} {v v':Nat->Value} {L:Nat->List Cv.af} {pf n:Nat->Int} {wd h:Int} {ev:Nat->Value} {u:Value} {out:List Cv.af}
theorem Gone.later(H:Gone W0 W b v u out)(hb:U W W'):Gone W0 W' b v u out:=⟨dh H.row hb,H.ap⟩
theorem Gone.act(H:Gone W0 W b v u out)(hF:bB w W F P I b v L pf n wd h)(hs:bX W W' P I b v v'):Gone W0 W' b v' u out:=by
 have hlt:=H.row.lt;refine⟨⟨H.row.1,?_⟩,fun j hj k hk e=>?_⟩
 .rcases H.row.2 with hn | ⟨g,cap,cur,e,hg,er,rest⟩
  .exact .inl hn
  .have hu:u.ownBlock=some g:=by rw[e];rfl
   refine .inr ⟨g,cap,cur,e,hg,?_,rest⟩;rw[hs.keep g (lBq er) (aN er hF.dJ (by decide)) (fun j hj=>⟨aN er (hF.it j hj) (by decide),aN er (hF.aO j hj).cell (by decide),H.ap j hj g hu⟩)];exact er
 .rcases hs.new j hj k e with h1 | h1
  .exact H.ap j hj k hk h1
  .have:=(hlt k hk).2;omega
theorem bB.grow(hF:bB w W F P I b v L pf n wd h)(H:Gone W0 W b v u out)(hW0:w.heap.size<=W0.heap.size)(hg:W.grownBy W' u.ownBlock):bB w W' F P I b v L pf n wd h:=by
 have hlt:=H.row.lt;have ho:Only W W' none u.ownBlock:=Only.j9 hg none;have hk:∀{q:Nat} {a:Array Value} {T:TypeId},W.heap[q]?=some (.cells a T (0,0))->T≠197->W'.heap[q]?=some (.cells a T (0,0)):=fun {q a T} hq hT=>by
  rw[ho.block q (lBq hq) (by simp) (fun e=>jS H.row hq hT e.symm)];exact hq
 refine⟨hk hF.blk (by decide),fun i hi=>hk (hF.it i hi) (by decide),fun i hi=>?_,hF.qz,hF.ne,hF.ap,hk hF.dJ (by decide),hF.lo,hF.oH,hF.oI,hF.bG.trans (ho.below hF.bG.size (fun k e=>by cases e) (fun k e=>lTq hW0 (hlt k e).1))⟩;exact(hF.aO i hi).only ho (by simp) (fun e=>jS H.row (hF.aO i hi).cell (by decide) e.symm) (fun _ _=>by simp) (fun k hk e=>H.ap i hi k e.symm hk)
theorem bX.grown{W W1 W2:World}{P:Nat}{I b:Nat->Nat}{v v1:Nat->Value}(h:bX W W1 P I b v v1){r:Option Nat}(hg:W1.grownBy W2 r)(hr:∀g,r=some g->W.heap.size<=g):bX W W2 P I b v v1 :=
 ⟨hg.os.trans h.os,hg.tape.trans h.tape,hg.output.trans h.output,lTq h.size hg.size,fun k hk h1 h2=>by rw[hg.block k (Nat.lt_of_lt_of_le hk h.size) (fun e=>by have:=hr k e.symm;omega)];exact h.keep k hk h1 h2,h.new⟩
theorem afO(c:Int)(hF:Hid (bB w W F P I b v L pf n wd h))(he:Hid (eQ w ev))(hok:Hid (Fs.dI L pf)):
  Calls prog 186 #[Rw F,Z c] W fun e W'=>afN w W W' e F P I b v L pf n wd h c:=by
 obtain⟨i0,z0,hi,hz0,hz1,hz2,hz3⟩:=Fh;have Hi:=Y hi;have fe:=Y hz0;have fg:=Y hz1;have fh:=Y hz2;have lM:=Y hz3;clear hi hz0 hz1 hz2 hz3;have p0:W.cell? (O F 2)=some (.pointer (some ⟨I 0,0,none⟩)):=hF.xF (i:=0) (by decide);have p1:W.cell? (O F 3)=some (.pointer (some ⟨I 1,0,none⟩)):=hF.xF (i:=1) (by decide);have p2:W.cell? (O F 4)=some (.pointer (some ⟨I 2,0,none⟩)):=hF.xF (i:=2) (by decide);have FI:=Y (Fl.FF c L (fun i hi=>(hok.aO i hi).len));have HW0:Hid (w.heap.size<=W.heap.size):=hF.bG.size;go_enter func186,ntmps186;go_wp2
 go_loopw [5,14] (fun u cc wr=>∃(i:Nat) (mI:Nat->Value),i<=3/\cc=Z i/\bB w wr F P I b mI (Fl.kO c L i) (Fl.pC c L pf i) n wd h/\bX W wr P I b v mI/\Gone W wr b mI u (Fl.mF c L i)/\Fs.dI (Fl.kO c L i) (Fl.pC c L pf i)) (fun _ cc _=>3-(intOf cc).toNat)
 case atStart=>exact⟨0,v,by omega,rfl,hF,bX.refl _ _ _ _ _,⟨⟨rfl,.inl ⟨rfl,rfl⟩⟩,fun j hj k hk=>by cases hk⟩,hok⟩
 case round =>
  obtain⟨i,mI,hi,rfl,hf,hs,hg,ho⟩:=hrel;obtain⟨KA,afP⟩:∃KA,KA=u5:=⟨_,rfl⟩;subst afP;obtain⟨gP,hwo⟩:∃gP,gP=wr:=⟨_,rfl⟩;subst hwo;have gZ:=Y hf;have TI:=Y hs;have KB:=Y hg;have KC:=Y ho;clear hf hs hg ho p0 p1 p2;by_cases bU:i<3
  .have aT:(i:Int)<3:=by omega
   have ix:=fun W=>afM I bU W;have Ck:=Fl.Kr c L i i (E _);have cb:=gZ.xG bU;have KD:=BI (b i) w.heap.size (mI i) (Fl.kO c L i i) gP (gZ.aO i bU) (KC.aO i bU).len;rw[Ck]at KD;have lL:=Y KD;have FJ:=Y (hok.aO i bU).once;have vC:=Y (hok.aO i bU).len;have TJ:Hid (upd (Fl.kO c L i) i (Fl.gq c (L i) 0)=Fl.kO c L i):=by show _=_;rw[Fl.Tp,<- Ck,pB]
   have as5:=Y Ck;clear KD Ck
   go_wp2_with fail
   refine lL.mono ?_;rintro e w2 ⟨vl,rfl,hrow,hb2⟩;have dB:=Y (gZ.later hb2);have HS2:=Y (TI.below hb2);have zG:=Y (KB.later hb2);have TK:=KE hrow;have au:Hid (gP.heap.size<=w2.heap.size):=hb2.size;have kn:=Y hrow;have afQ:=Y gZ;have afR:Hid (∀g,KA.ownBlock=some g->g<gP.heap.size):=fun g hg=>(KB.row.lt g hg).2;clear hrow hb2 cb;obtain⟨la,lc,hvl⟩:∃la lc,vl=.slice la (L i).length lc:=by
    rcases TK with ⟨e,a,c,rfl⟩ | ⟨g,o,c,rfl,_⟩
    .exact⟨a,c,by rw[e];rfl⟩
    .exact⟨_,_,rfl⟩
   subst hvl;obtain⟨m,hm⟩:=aG ((L i).length);rw[hm]at kn;rw[hm];have RQ:m<=60:=by rw[<- hm];exact vC
   have HM:=Y hm;clear TK hm;have TL:Hid (∀g,(Value.slice la m lc).ownBlock=some g->g<w2.heap.size):=fun g hg=>(kn.lt g hg).2;simp only[]
   go_wp2_with fail
   go_loopw [5,24] (fun u cc wl=>∃(k:Nat) (qA:Nat->Value) (fk:Nat->Int),k<=m/\cc=Z k/\fk=Fl.zH i (Fl.pC c L pf i) (Fl.kN c (L i) k)/\bB w wl F P I b qA (upd (Fl.kO c L i) i (Fl.gq c (L i) k)) fk n wd h/\bX W wl P I b v qA/\(∀j,j<3->∀g,(qA j).ownBlock=some g->(mI j).ownBlock=some g\/w2.heap.size<=g)/\Gone W wl b qA u (Fl.mF c L i++Fl.kN c (L i) k)/\Fs.dI (upd (Fl.kO c L i) i (Fl.gq c (L i) k)) fk/\wl.ownsRow gP.heap.size 197 5 (.slice la m lc) m (flat (L i))/\(∀g,(Value.slice la m lc).ownBlock=some g->u.ownBlock≠some g)/\w2.heap.size<=wl.heap.size) (fun _ cc _=>m-(intOf cc).toNat)
   case atStart =>
    refine⟨0,mI,_,Nat.zero_le _,rfl,rfl,?_,HS2,fun j hj g hg=>.inl hg,?_,?_,kn,?_,E _⟩
    .rw[TJ.out];exact dB
    .rw[show Fl.kN c (L i) 0=[] from rfl,aNq];exact zG
    .rw[TJ.out];exact KC
    .intro g hg e
     have h1:=(kn.lt g hg).1;have h2:=afR.out g e;omega
   case round =>
    obtain⟨k,qA,fk,hk,rfl,zL,hf,hs,hs2,hg,ho,hrow,hap,hsz⟩:=hrel;obtain⟨KF,afS⟩:∃KF,KF=u5:=⟨_,rfl⟩;subst afS;obtain⟨wl,nx⟩:∃wl,wl=wr:=⟨_,rfl⟩;subst nx;have zM:=Y zL;have tj:=Y hf;have Cm:=Y hs;have KG:=Y hs2;have FK:=Y hg;have xH:=Y ho;have xI:=Y hrow;have KH:=Y hap;have afT:=Y hsz;clear zL hf hs hs2 hg ho hrow hap hsz;by_cases hlt:k<m
    .have hkm:(k:Int)<m:=by omega
     have hkl:k<(L i).length:=by rw[HM.out];exact hlt
     obtain⟨gl,hla⟩:∃gl,la=some (O gl 0):=by
      rcases xI.2 with ⟨e,_⟩ | ⟨g,cap,cur,e,_⟩
      .simp at e;omega
      .simp at e;exact⟨g,e.1⟩
     subst hla;obtain⟨c0,c1,c2,c3,c4⟩:=(zN xI) k hkl;rw[show 0+k*5=k*5 by omega]at c0 c1 c2 c3 c4;have TM:=Y (fun (hc:(Cv.nth (L i) k).ai=c)=>Fl.Kq FJ hkl hc);have TN:=Y (fun (hc:(Cv.nth (L i) k).ai≠c)=>Fl.keep_other hkl hc);have TP:=Y (fun (hc:(Cv.nth (L i) k).ai=c)=>Fl.drop_one bU xH FJ hkl hc);generalize Cv.nth (L i) k=X at *;obtain⟨x0,x1,x2,x3,x4⟩:=X;simp only[]at c0 c1 c2 c3 c4 TM TN TP;obtain⟨kG,tq⟩:=aG (wl.alloc (.cells #[Z x0,Z x1,Z x2,Z x3,Z x4] 197));obtain⟨DD,zO⟩:=aG wl.heap.size;have hba:U wl kG:=by rw[<- tq];exact aj
     have TQ:Hid (kG.heap[DD]?=some (.cells #[Z x0,Z x1,Z x2,Z x3,Z x4] 197 (0,0))):=by show _=_;rw[<- tq,<- zO];exact hNq _ _
     have FL:=Y (tj.later hba);have TR:=Y (Cm.below hba);have KI:=Y (FK.later hba);have KJ:=Y (dh xI hba);have TS:=Y (tj.fresh (q:=DD) (by omega));have as6:Hid (KF.ownBlock≠some DD):=fun e=>by have:=(FK.row.lt DD e).2;omega
     have iy:Hid (w2.heap.size<=kG.heap.size):=lTq afT hba.size;have FM:=Y tq;have FN:=Y zO;clear hba tq zO;by_cases hc:x1=c
     .obtain⟨TT,TU,afU,afV⟩:=TM.out hc
      have hlen:=(xH.aO i bU).len;rw[upd_same]at hlen;have KL:=TH i bU ⟨x0,x1,x2,x3,x4⟩ FL he xH.good (by show _<=_;rw[upd_same];exact hlen);rw[upd_same,s7,TT]at KL;have KM:=Y KL;unfold cm at KM;simp only[]at KM;have TV:=Y TU;clear TT TU afU afV hlen KL;subst hc
      go_wp2_with fail
      rw[FM.out,FN.out];refine KM.mono ?_;rintro e dm ⟨rfl,vb,TW,mD⟩;have vD:=Y (TR.trans mD);have afW:Hid (∀j,j<3->∀g,(vb j).ownBlock=some g->(mI j).ownBlock=some g\/w2.heap.size<=g):=fun j hj g hg=>by
       rcases mD.new j hj g hg with h5 | h5
       .exact KG j hj g h5
       .exact .inr (lTq iy h5)
      have FO:=Y (KI.act FL mD);have Cn:=Y ((mD.keep DD (lBq TQ) TS.2.1 TS.2.2).trans TQ);have hrb:dm.ownsRow gP.heap.size 197 5 (.slice (some (O gl 0)) m lc) m (flat (L i)):=by
       refine⟨KJ.1,?_⟩;rcases KJ.2 with hn | ⟨g,cap,cur,e,hg,er,rest⟩
       .exact .inl hn
       .obtain⟨_,f2,f3⟩:=afQ.fresh hg
        refine .inr ⟨g,cap,cur,e,hg,?_,rest⟩;rw[mD.keep g (lBq er) f2 (fun j hj=>⟨(f3 j hj).1,(f3 j hj).2.1,fun e2=>?_⟩)]
        .exact er
        .rcases KG.out j hj g e2 with h5 | h5
         .exact(f3 j hj).2.2 h5
         .have:=TL.out g (by rw[e];rfl);omega
      have TX:Hid (kG.heap.size<=dm.heap.size):=mD.size;have fY:=Y hrb;have gQ:=Y TW;clear TW mD hrb;have lW:=ag Cn 0 rfl;have k1:=ag Cn 1 rfl;have k2:=ag Cn 2 rfl;have k3:=ag Cn 3 rfl;have k4:=ag Cn 4 rfl;have TY:Hid ((Fl.mF x1 L i++Fl.kN x1 (L i) k).length<=400):=by have h1:=FI.out i (by omega);have h2:=List.length_filter_le (fun x:Cv.af=>x.ai==x1) ((L i).take k);have h3:=List.length_take_le k (L i);have h4:=vC.out;show _<=_;unfold Fl.kN;rw[lAq];omega
      generalize T4:Fl.mF x1 L i++Fl.kN x1 (L i) k=KN at *;have afX:=Y T4;clear T4;simp only[]
      go_wp2_with (at_builtin;refine wpList_append_own_at _ rfl _ _ 195 rfl W.heap.size 197 i0 z0 5 40 underlying195 Hi fe fg fh lM (by decide) _ _ _ rfl (FO.row.alloc _) (O dm.heap.size 0) 1 1 (eK ⟨x0,x1,x2,x3,x4⟩) rfl rfl ?c1 ?c2 ?c3 ?c4 ?c5 ?_)
      case c1=>exact fun j y hj=>zu dm ⟨x0,x1,x2,x3,x4⟩ 197 _ rfl j y hj
      case c2 => exact fun y hu => by
                      simp only[eK,List.mem_cons,List.not_mem_nil,or_false]at hu;rcases hu with rfl | rfl | rfl | rfl | rfl <;> rfl
      case c3=>have:=TY.out;unfold maxLen;omega
      case c4=>have:=TY.out;omega
      case c5=>have:=vD.size;simp;omega
      intro ve we hown' hgrow _ hloc;have hb0:U dm (dm.alloc (.cells #[Z x0,Z x1,Z x2,Z x3,Z x4] 197)):=aj;have vE:=(gQ.later hb0).grow (FO.later hb0) HW0 hgrow;have zP:=(vD.below hb0).grown hgrow (fun g hg=>(FO.row.lt g hg).1);have hgo:Gone W we b vb ve (KN++[Cv.af.mk x0 x1 x2 x3 x4]):=by
       refine⟨?_,fun j hj g hg e=>?_⟩
       .rw[show flat (KN++[Cv.af.mk x0 x1 x2 x3 x4])=flat KN++eK ⟨x0,x1,x2,x3,x4⟩ by simp[flat],lAq]
        exact hown'
       .have KO:=((gQ.aO j hj).uY g e).2
        rcases hloc with h5 | h5
        .rw[h5]at hg;exact FO.ap j hj g hg e
        .rw[h5]at hg
         simp at hg;omega
      have T5:we.ownsRow gP.heap.size 197 5 (.slice (some (O gl 0)) m lc) m (flat (L i)):=by
       have iZ:=dh fY hb0;refine⟨iZ.1,?_⟩;rcases iZ.2 with hn | ⟨g,cap,cur,e,hg,er,rest⟩
       .exact .inl hn
       .exact .inr ⟨g,cap,cur,e,hg,by rw[hgrow.block g (lBq er) (fun e2=>KH.out g (by rw[e];rfl) e2.symm)];exact er,rest⟩
      have T6:∀g,(Value.slice (some (O gl 0)) m lc).ownBlock=some g->ve.ownBlock≠some g:=fun g hg e=>by
       rcases hloc with h5 | h5
       .rw[h5]at e;exact KH g hg e
       .rw[h5]at e
        have h6:=TL.out g hg;have h7:=iy.out;have h8:=TX.out;simp at e;omega
      have T7:w2.heap.size<=we.heap.size:=by have:=iy.out;have:=TX.out;have:=hb0.size;have:=hgrow.size;omega
      have afY:=Y vE;have KP:=Y zP;have afZ:=Y hgo;have kP:=Y T5;have vy:=Y T6;have af0:=Y T7;clear hb0 vE zP hgo T5 T6 T7 hown' hgrow hloc lW k1 k2 k3 k4;go_wp2;refine⟨⟨k+1,vb,_,by omega,by go_num,?_,afY,KP,afW,?_,TP (by simp),kP,vy,af0⟩,by simp[intOf];omega⟩
      .rw[zM.out,TV.out]
       unfold Fl.zH;rw[List.foldl_append];rfl
      .rw[TV.out,<- aAq,afX.out]
       exact afZ
     .obtain⟨h1,h2⟩:=TN.out hc
      have hcb:(x1==c)=false:=by simpa using hc
      rw[<- h1]at FL xH;rw[<- h2]at KI zM;go_wp2;rw[FM.out];exact⟨⟨k+1,qA,fk,by omega,by go_num,zM,FL,TR,KG,KI,xH,KJ,KH,iy⟩,by simp[intOf];omega⟩
    .have hkm:¬ (k:Int)<m:=by omega
     have e1:Fl.gq c (L i) k=(L i).filter (fun x=>!(x.ai==c)):=Fl.Tq c (by rw[HM.out];omega);have e2:Fl.kN c (L i) k=(L i).filter (fun x=>x.ai==c):=Fl.Tt c (by rw[HM.out];omega);rw[e1]at tj xH;rw[e2]at zM FK;go_wp2;refine⟨⟨i+1,qA,by omega,by go_num,?_,Cm,FK,?_⟩,by simp[intOf];omega⟩
     .have:=tj.out;rw[zM.out]at this;exact this
     .have:=xH.out;rw[zM.out]at this;exact this
  .have aT:¬ (i:Int)<3:=by omega
   obtain rfl:i=3:=by omega
   go_wp2;go_ret;exact⟨_,_,rfl,KB.row,gZ,TI,KC⟩
end
theorem pE{W:World}{D:Nat}(hz:W.heap[D]?=some (.cells #[Z 0,Z 0,Z 0,Z 0,Z 0] 197 (0,0)))(x0 x1 x2 x3 x4:Int):
  (((((W.setCell (O D 0) (Z x0)).setCell (O D 1) (Z x1)).setCell (O D 2) (Z x2)).setCell (O D 3) (Z x3)).setCell (O D 4) (Z x4)).heap[D]?=some (.cells #[Z x0,Z x1,Z x2,Z x3,Z x4] 197 (0,0)):=by
 have h0:(W.setCell (O D 0) (Z x0)).heap[D]?=some (.cells #[Z x0,Z 0,Z 0,Z 0,Z 0] 197 (0,0)):=by rw[setCell_eq_setRow _ D 0 _ _ _ _ hz];exact setRow_heap _ D _ _ _ _ hz
 have h1:((W.setCell (O D 0) (Z x0)).setCell (O D 1) (Z x1)).heap[D]?=some (.cells #[Z x0,Z x1,Z 0,Z 0,Z 0] 197 (0,0)):=by rw[setCell_eq_setRow _ D 1 _ _ _ _ h0];exact setRow_heap _ D _ _ _ _ h0
 have h2:(((W.setCell (O D 0) (Z x0)).setCell (O D 1) (Z x1)).setCell (O D 2) (Z x2)).heap[D]?=some (.cells #[Z x0,Z x1,Z x2,Z 0,Z 0] 197 (0,0)):=by rw[setCell_eq_setRow _ D 2 _ _ _ _ h1];exact setRow_heap _ D _ _ _ _ h1
 have h3:((((W.setCell (O D 0) (Z x0)).setCell (O D 1) (Z x1)).setCell (O D 2) (Z x2)).setCell (O D 3) (Z x3)).heap[D]?=some (.cells #[Z x0,Z x1,Z x2,Z x3,Z 0] 197 (0,0)):=by rw[setCell_eq_setRow _ D 3 _ _ _ _ h2];exact setRow_heap _ D _ _ _ _ h2
 rw[setCell_eq_setRow _ D 4 _ _ _ _ h3];exact setRow_heap _ D _ _ _ _ h3
theorem Ca{n:Nat}{w W:World}{D:Nat}(h:Below n w W)(hD:n<=D)(x0 x1 x2 x3 x4:Value):Below n w (((((W.setCell (O D 0) x0).setCell (O D 1) x1).setCell (O D 2) x2).setCell (O D 3) x3).setCell (O D 4) x4) :=
 ((((h.setCell (p:=(O D 0)) hD _).setCell (p:=(O D 1)) hD _).setCell (p:=(O D 2)) hD _).setCell (p:=(O D 3)) hD _).setCell (p:=(O D 4)) hD _
theorem xC(W:World)(D:Nat)(x0 x1 x2 x3 x4:Value):aU W (((((W.setCell (O D 0) x0).setCell (O D 1) x1).setCell (O D 2) x2).setCell (O D 3) x3).setCell (O D 4) x4) D:=((((aU.setCell _ _ _ _).put _ _).put _ _).put _ _).put _ _
section
variable {w W:World} {F P:Nat} {I b:Nat->Nat} {v:Nat->Value} {L:Nat->List Cv.af} {pf n:Nat->Int} {wd h:Int} {ev:Nat->Value}
theorem afE(a:Ask)(hF:Hid (bB w W F P I b v L pf n wd h))(he:Hid (eQ w ev))(hk:Hid (Fl.gY a 99≠0)):
  Calls prog 217 #[Rw F,bM a] W fun e W'=>e=.returned (.tuple #[cm (Fl.gA L a),dz ev (Fl.dP L pf a)])/\∃v',bB w W' F P I b v' (Fl.eZ L a) (Fl.kM L pf a) n wd h/\bX W W' P I b v v':=by
 have hpos:=Fl.Kl hk;have hC:Fl.dP L pf a=Fl.oF a 99:=by unfold Fl.dP Fl.oF;rw[if_neg hk.out]
 have hne:Fl.dP L pf a≠0:=by rw[hC];unfold Fl.oF;omega
 have hX:Fl.gA L a=Cv.z:=by unfold Fl.gA;rw[if_neg (fun h=>hk.out h.1)]
 have hL:Fl.eZ L a=L:=by unfold Fl.eZ;rw[if_neg (fun h=>hk.out h.1)]
 have hP:Fl.kM L pf a=pf:=by unfold Fl.kM;rw[if_neg (fun h=>hk.out h.1)]
 rw[hX,hL,hP,hC];rw[hC]at hne;have HK:=Y (fun W' (hb:U W W')=>Cb a 99 W' ((hF.cp he).below hb) (by decide));generalize Fl.oF a 99=Cc at *;obtain⟨d,rfl⟩:∃d,Cc=d+1:=⟨Cc-1,by omega⟩;rw[show dz ev (d+1)=.iface 412 (ev (d+1)) from rfl]at HK ⊢;clear hC hne hX hL hP;obtain⟨aW,ac,bn,bw,asd,aR,aq,aP⟩:=a;unfold bM aX at HK ⊢;simp only[]at HK ⊢;have hb0:U W ((W.alloc (.cells #[.int .u8 aW,Z ac,Z bn,Z bw,Z asd,Z aR,Z aq,Z aP] 95)).alloc (.cells #[Z 0,Z 0,Z 0,Z 0,Z 0] 197)):=aj.alloc (by simp) _;have hz0:((W.alloc (.cells #[.int .u8 aW,Z ac,Z bn,Z bw,Z asd,Z aR,Z aq,Z aP] 95)).alloc (.cells #[Z 0,Z 0,Z 0,Z 0,Z 0] 197)).heap[W.heap.size+1]?=some (.cells #[Z 0,Z 0,Z 0,Z 0,Z 0] 197 (0,0)):=by have:=hNq (W.alloc (.cells #[.int .u8 aW,Z ac,Z bn,Z bw,Z asd,Z aR,Z aq,Z aP] 95)) (.cells #[Z 0,Z 0,Z 0,Z 0,Z 0] 197);simpa using this
 have cG:=Y hb0;have pF:=Y hz0;clear hb0 hz0;go_enter func217,ntmps217
 go_wp2_with fail
 refine(HK _ cG).mono ?_;rintro e w2 ⟨rfl,hb2⟩;have HB2:=Y (ar cG hb2);have HZ2:=Y ((hb2.block _ (lBq pF)).trans pF);clear hb2;generalize hR:W.heap.size+1=R at *;have r0:=ag HZ2 0 rfl;have r1:=ag HZ2 1 rfl;have r2:=ag HZ2 2 rfl;have r3:=ag HZ2 3 rfl;have r4:=ag HZ2 4 rfl;have q:=aC HZ2;have q0:=q 0;have q1:=q 1;have q2:=q 2;have q3:=q 3;have q4:=q 4;clear q;have Ce:Hid (W.heap.size<=R):=by show _<=_;omega
 clear hR;simp only[];go_wp2;have dA:=pE HZ2 0 0 0 0 0;have lU:=Ca HB2 Ce (Z 0) (Z 0) (Z 0) (Z 0) (Z 0);generalize (((((w2.setCell (O R 0) (Z 0)).setCell (O R 1) (Z 0)).setCell (O R 2) (Z 0)).setCell (O R 3) (Z 0)).setCell (O R 4) (Z 0))=Wf at *;have z0:=ag dA 0 rfl;have dw:=ag dA 1 rfl;have z2:=ag dA 2 rfl;have z3:=ag dA 3 rfl;have z4:=ag dA 4 rfl;exact bodyPost_ret (v:=.tuple #[.agg #[Z 0,Z 0,Z 0,Z 0,Z 0],.iface 412 (ev (d+1))]) (by simp[results,results217,go_sem,z0,dw,z2,z3,z4]) rfl ⟨rfl,v,hF.later lU,bX.of_below lU P I b v⟩
theorem afF(a:Ask)(hF:Hid (bB w W F P I b v L pf n wd h))(he:Hid (eQ w ev))(hok:Hid (Fs.dI L pf))(hk:Hid (Fl.gY a 99=0))(hm:Hid (Fl.mine L a=false)):
  Calls prog 217 #[Rw F,bM a] W fun e W'=>e=.returned (.tuple #[cm (Fl.gA L a),dz ev (Fl.dP L pf a)])/\∃v',bB w W' F P I b v' (Fl.eZ L a) (Fl.kM L pf a) n wd h/\bX W W' P I b v v':=by
 have hit:=Fl.B3 hk;obtain⟨i,hi⟩:∃i:Nat,a.it=i:=⟨a.it.toNat,by omega⟩;have bU:i<3:=by omega
 have lx:a.it.toNat=i:=by omega
 have HK:=Y (fun W' (hb:U W W')=>Cb a 99 W' ((hF.cp he).below hb) (by decide));rw[Fl.Kv hk.out,show dz ev 0=.nilIface from rfl]at HK;have zK:Fl.dP L pf a=5:=by unfold Fl.dP;rw[if_pos hk.out,if_neg (by rw[hm.out];simp)]
 have hX:Fl.gA L a=Cv.z:=by unfold Fl.gA;rw[if_neg (fun h=>by rw[hm.out]at h;simp at h)]
 have hL:Fl.eZ L a=L:=by unfold Fl.eZ;rw[if_neg (fun h=>by rw[hm.out]at h;simp at h)]
 have hP:Fl.kM L pf a=pf:=by unfold Fl.kM;rw[if_neg (fun h=>by rw[hm.out]at h;simp at h)]
 rw[hX,hL,hP,zK,show dz ev 5=.iface 412 (ev 5) from rfl];clear hX hL hP zK;have hmm:=hm.out;unfold Fl.mine at hmm;rw[lx]at hmm;obtain⟨aW,ac,bn,bw,asd,aR,aq,aP⟩:=a;simp only[]at hi lx;subst hi;unfold bM aX at HK ⊢;simp only[]at HK ⊢;simp only[]at hmm;obtain⟨is,s9⟩:=aG (Cv.has (L i) aP);obtain⟨⟨x0,x1,x2,x3,x4⟩,hX⟩:∃X,Bk.j_ (L i) aP=X:=⟨_,rfl⟩;have Cf:Hid (Cv.has (L i) aP=is/\Bk.j_ (L i) aP=⟨x0,x1,x2,x3,x4⟩):=⟨s9,hX⟩;have hno:is=false\/is=true/\x1≠ac:=by
  cases is with
  | false=>exact .inl rfl
  | true =>
   refine .inr ⟨rfl,fun e=>?_⟩;rw[s9,Bool.true_and]at hmm;have hn:Cv.nth (L i) (Bk.pos (L i) aP)=⟨x0,x1,x2,x3,x4⟩:=by rw[<- hX];unfold Bk.j_;rw[if_pos s9]
   rw[hn]at hmm;simp[e]at hmm
 clear hmm s9 hX;clear hit hk lx;obtain⟨R,hR⟩:=aG (W.heap.size+1);obtain⟨A,hA⟩:=aG W.heap.size;obtain⟨w1,d6⟩:=aG ((W.alloc (.cells #[.int .u8 aW,Z ac,Z bn,Z i,Z asd,Z aR,Z aq,Z aP] 95)).alloc (.cells #[Z 0,Z 0,Z 0,Z 0,Z 0] 197));have hb1:U W w1:=by rw[<- d6];exact aj.alloc (by simp) _
 have HR1:Hid (w1.heap[R]?=some (.cells #[Z 0,Z 0,Z 0,Z 0,Z 0] 197 (0,0))):=by
  show _=_;rw[<- d6,<- hR]
  have:=hNq (W.alloc (.cells #[.int .u8 aW,Z ac,Z bn,Z i,Z asd,Z aR,Z aq,Z aP] 95)) (.cells #[Z 0,Z 0,Z 0,Z 0,Z 0] 197)
  simpa using this
 have HA1:Hid (w1.heap[A]?=some (.cells #[.int .u8 aW,Z ac,Z bn,Z i,Z asd,Z aR,Z aq,Z aP] 95 (0,0))):=by show _=_;rw[<- d6,<- hA];exact(Below.heap_alloc _ _ _ (by simp)).trans (hNq W _)
 have HB1:=Y hb1;have HRW:Hid (W.heap.size<=R):=by show _<=_;omega
 have HW1:=Y d6;have kP:=Y hR;have vy:=Y hA;clear hb1 d6 hR hA;go_enter func217,ntmps217
 go_wp2_with fail
 rw[HW1.out,kP.out,vy.out];refine(HK _ HB1).mono ?_;rintro e w2 ⟨rfl,hb2⟩;have hbW2:=ar HB1 hb2;have b_:=Y ((hb2.block _ (lBq HR1)).trans HR1);have cJ:=Y ((hb2.block _ (lBq HA1)).trans HA1);have dB:=Y (hF.later hbW2);have HS2:=Y (bX.of_below hbW2 P I b v);clear hb2 hbW2;have Cg:(0:Int)<=(i:Int):=by omega
 have TE:(i:Int)<3:=by omega
 simp only[]
 go_wp2_with fail
 obtain⟨bl,val,hcl,ay⟩:=Ch F (I i) A (.cells (vz I P wd h) 210 (0,0)) (.cells (vA (b i) (n (i*2)) (n (i*2+1))) 267 (0,0)) (.cells #[.int .u8 aW,Z ac,Z bn,Z i,Z asd,Z aR,Z aq,Z aP] 95 (0,0));obtain⟨y0,dx⟩:=ay w2.drew ⟨dB.blk,dB.it i bU,cJ⟩;have hnx:Nonempty bl:=⟨y0⟩;have Kw:∀x,(val x).cell? ⟨F,2+i,none⟩=some (.pointer (some ⟨I i,0,none⟩)):=fun x=>by
  rw[cR _ _ _ _ _ _ (hcl x).1];have:i=0\/i=1\/i=2:=by omega
  rcases this with rfl | rfl | rfl <;> rfl
 have eb:=fun x=>ag (hcl x).2.1 0 rfl;have e3:=fun x=>ag (hcl x).2.2 3 rfl;have e7:=fun x=>ag (hcl x).2.2 7 rfl;have hbd:U w2 w2.drew:=⟨rfl,rfl,rfl,E _,fun _ _=>rfl⟩;have eR:=Y (dB.later hbd);have dL:=Y (HS2.below hbd);have cO:Hid (w2.drew.heap[R]?=some (.cells #[Z 0,Z 0,Z 0,Z 0,Z 0] 197 (0,0))):=b_.out;have gF:Hid (w2.drew.heap[A]?=some (.cells #[.int .u8 aW,Z ac,Z bn,Z i,Z asd,Z aR,Z aq,Z aP] 95 (0,0))):=cJ.out;obtain⟨w4,hw4⟩:=aG w2.drew;rw[hw4]at eR dL cO gF;have aH:Hid (∀W',U w4 W'->∃x,val x=W'):=fun W' hb=>ay W' ⟨(eR.later hb).blk,(eR.later hb).it i bU,by rw[hb.block _ (lBq gF.out)];exact gF⟩;have nD:Hid (∀W',U w4 W'->Calls prog 192 #[.pointer (some ⟨b i,0,none⟩),Z aP] W' fun e w'=>e=.returned (.tuple #[.agg #[Z x0,Z x1,Z x2,Z x3,Z x4],.bool is])/\U W' w'):=fun W' hb=>by
  have:=Fi (b i) w.heap.size (v i) aP (L i) W' ((eR.later hb).aO i bU) (hok.aO i bU).len
  rw[Cf.out.1,Cf.out.2]at this;exact this
 clear ay hcl hbd;refine vB (val:=val) (fun D aA=>aA.heap[D]?=some (.cells #[Z x0,Z x1,Z x2,Z x3,Z x4] 197 (0,0))/\w4.heap.size<=D/\U w4 aA) (.read 0 (.read 1 (.read 2 (.read 3 (.read 4 (.read 5 (.read 6 (.read 7 (.read 8 (.read 9 (.read 10 (.read 11 (.two 12 (.read 13 (.read 14 (.read 15 (.one 16 (.one 17 (.read 18 .done)))))) 16 (.one 12 (.read 13 (.read 14 (.read 15 (.one 17 (.read 18 .done))))))))))))))))))) (by kernel_rfl) (by kernel_rfl) y0 dx ?_;apply Exists.intro;refine⟨?_,?_⟩
 case' refine_1 =>
  rw[dx,hw4]
  iterate 12 (refine cF rfl (fun K hK=>?_);refine⟨by rfl,?_⟩;unfold aQ;go_simp;refine hK _ ?_;clear hK K)
  have iY:Hid (U w4 w4):=bRq _ _;refine⟨?_,?_⟩
  case refine_1 =>
   refine cq rfl (fun K hK=>?_);refine⟨by rfl,?_⟩;unfold aB;go_simp;refine(nD _ iY).mono ?_;rintro e wc ⟨rfl,hbc⟩;have gG:=Y (ar iY hbc);refine⟨_,rfl,aH _ gG,hK _ _ ?_⟩;clear hK K hbc
   iterate 3 (refine cF rfl (fun K hK=>?_);refine⟨by rfl,?_⟩;unfold aQ;go_simp;refine hK _ ?_;clear hK K)
   refine cq rfl (fun K hK=>?_);refine⟨by rfl,?_⟩;unfold aB;go_simp;obtain⟨D,hD⟩:=aG wc.heap.size;obtain⟨aD,hwz⟩:=aG (wc.alloc (.cells #[Z 0,Z 0,Z 0,Z 0,Z 0] 197));rw[hD,hwz];have cA:Hid (U w4 aD):=by show Below _ _ _;rw[<- hwz];exact gG.alloc gG.size _
   have au:Hid (aD.heap[D]?=some (.cells #[Z 0,Z 0,Z 0,Z 0,Z 0] 197 (0,0))):=by show _=_;rw[<- hwz,<- hD];exact hNq _ _
   have fW:Hid (w4.heap.size<=D):=by have:=gG.size;show _<=_;omega
   refine⟨aH _ cA,hK _ _ ?_⟩;clear hK K hwz hD;have c0:=ag au 0 rfl;have f0:=aC au 0;have c1:=ag au 1 rfl;have f1:=aC au 1;have c2:=ag au 2 rfl;have f2:=aC au 2;have c3:=ag au 3 rfl;have f3:=aC au 3;have c4:=ag au 4 rfl;have f4:=aC au 4;have HX:=Y (pE au x0 x1 x2 x3 x4);have bk:=Y (Ca cA fW (Z x0) (Z x1) (Z x2) (Z x3) (Z x4));refine cq rfl (fun K hK=>?_);refine⟨by rfl,?_⟩;unfold aB;go_simp;refine⟨aH _ bk,hK _ _ ?_⟩;clear hK K c0 c1 c2 c3 c4 f0 f1 f2 f3 f4;generalize (((((aD.setCell (O D 0) (Z x0)).setCell (O D 1) (Z x1)).setCell (O D 2) (Z x2)).setCell (O D 3) (Z x3)).setCell (O D 4) (Z x4))=aA at *;refine cF rfl (fun K hK=>?_);refine⟨by rfl,?_⟩;unfold aQ;go_simp;refine hK _ ?_;clear hK K;refine jR ?_;exact⟨D,rfl,HX,fW,bk⟩
  case refine_2 =>
   refine cq rfl (fun K hK=>?_);refine⟨by rfl,?_⟩;unfold aB;go_simp;obtain⟨D,hD⟩:=aG w4.heap.size;obtain⟨jl,hwz⟩:∃aD,w4.alloc (.cells #[Z 0,Z 0,Z 0,Z 0,Z 0] 197)=aD:=⟨_,rfl⟩;rw[hD,hwz];have ez:Hid (U w4 jl):=by show Below _ _ _;rw[<- hwz];exact iY.alloc iY.size _
   have qu:Hid (jl.heap[D]?=some (.cells #[Z 0,Z 0,Z 0,Z 0,Z 0] 197 (0,0))):=by show _=_;rw[<- hwz,<- hD];exact hNq _ _
   have fW:Hid (w4.heap.size<=D):=by have:=iY.size;show _<=_;omega
   refine⟨aH _ ez,hK _ _ ?_⟩;clear hK K hwz hD;refine cq rfl (fun K hK=>?_);refine⟨by rfl,?_⟩;unfold aB;go_simp;refine(nD _ ez).mono ?_;rintro e aD ⟨rfl,hbc⟩;have cA:=Y (ar ez hbc);have au:=Y ((hbc.block _ (lBq qu)).trans qu);refine⟨_,rfl,aH _ cA,hK _ _ ?_⟩;clear hK K hbc
   iterate 3 (refine cF rfl (fun K hK=>?_);refine⟨by rfl,?_⟩;unfold aQ;go_simp;refine hK _ ?_;clear hK K)
   have c0:=ag au 0 rfl;have f0:=aC au 0;have c1:=ag au 1 rfl;have f1:=aC au 1;have c2:=ag au 2 rfl;have f2:=aC au 2;have c3:=ag au 3 rfl;have f3:=aC au 3;have c4:=ag au 4 rfl;have f4:=aC au 4;have HX:=Y (pE au x0 x1 x2 x3 x4);have bk:=Y (Ca cA fW (Z x0) (Z x1) (Z x2) (Z x3) (Z x4));refine cq rfl (fun K hK=>?_);refine⟨by rfl,?_⟩;unfold aB;go_simp;refine⟨aH _ bk,hK _ _ ?_⟩;clear hK K c0 c1 c2 c3 c4 f0 f1 f2 f3 f4;generalize (((((aD.setCell (O D 0) (Z x0)).setCell (O D 1) (Z x1)).setCell (O D 2) (Z x2)).setCell (O D 3) (Z x3)).setCell (O D 4) (Z x4))=aA at *;refine cF rfl (fun K hK=>?_);refine⟨by rfl,?_⟩;unfold aQ;go_simp;refine hK _ ?_;clear hK K;refine jR ?_;exact⟨D,rfl,HX,fW,bk⟩
 intro D aA ⟨qw,qx,hb6⟩;have HX:=Y qw;have gH:=Y (eR.later hb6);have ej:=Y (dL.below hb6);have bT:=Y ((hb6.block _ (lBq cO)).trans cO);have jm:=Y ((hb6.block _ (lBq gF)).trans gF);have HDR:Hid (D≠R):=fun e=>by have:=lBq cO;omega
 have oG:=Y (eR.fresh qx);have nE:=Y (hF.fresh HRW);clear qw qx hb6 hw4;clear dx Kw eb e3 e7 aH;clear y0 hnx;clear val;clear bl;have d0:=ag HX 0 rfl;have d1:=ag HX 1 rfl;have d2:=ag HX 2 rfl;have d3:=ag HX 3 rfl;have d4:=ag HX 4 rfl;have a1:=ag jm 1 rfl;have a3:=ag jm 3 rfl;rcases hno with e | ⟨e,hne⟩
 .subst e
  have g5:=(gH.cp he).c5;have Ky:¬ (6=R):=fun e=>by have:=bCq _ _ (hF.cp he).c5;have:=HRW.out;simp at *;omega
  have rQ:¬ (R=6):=fun e=>Ky e.symm;have r0:=ag bT 0 rfl;have q0:=aC bT 0;have r1:=ag bT 1 rfl;have q1:=aC bT 1;have r2:=ag bT 2 rfl;have q2:=aC bT 2;have r3:=ag bT 3 rfl;have q3:=aC bT 3;have r4:=ag bT 4 rfl;have q4:=aC bT 4;go_wp2
  go_region
  go_wp2;have dA:=pE bT 0 0 0 0 0;have bP:=xC aA R (Z 0) (Z 0) (Z 0) (Z 0) (Z 0);have xD:=(gH.aside nE.1 nE.2.1 nE.2.2 (lTq hF.bG.size HRW) bP).later (dN 1);have ly:=(ej.newer bP HRW).below (dN 1);have Ci:((((((aA.setCell (O R 0) (Z 0)).setCell (O R 1) (Z 0)).setCell (O R 2) (Z 0)).setCell (O R 3) (Z 0)).setCell (O R 4) (Z 0)).drewN 1).heap[R]?=some (.cells #[Z 0,Z 0,Z 0,Z 0,Z 0] 197 (0,0)):=dA;clear bP dA;have dA:=Ci;clear Ci;rw[show (((((aA.setCell (O R 0) (Z 0)).setCell (O R 1) (Z 0)).setCell (O R 2) (Z 0)).setCell (O R 3) (Z 0)).setCell (O R 4) (Z 0)).drewN 1=(((((aA.setCell (O R 0) (Z 0)).setCell (O R 1) (Z 0)).setCell (O R 2) (Z 0)).setCell (O R 3) (Z 0)).setCell (O R 4) (Z 0)).drew from rfl]at xD ly dA;generalize (((((aA.setCell (O R 0) (Z 0)).setCell (O R 1) (Z 0)).setCell (O R 2) (Z 0)).setCell (O R 3) (Z 0)).setCell (O R 4) (Z 0)).drew=Wf at *;have z0:=ag dA 0 rfl;have dw:=ag dA 1 rfl;have z2:=ag dA 2 rfl;have z3:=ag dA 3 rfl;have z4:=ag dA 4 rfl;exact bodyPost_ret (v:=.tuple #[.agg #[Z 0,Z 0,Z 0,Z 0,Z 0],.iface 412 (ev 5)]) (by simp[results,results217,go_sem,z0,dw,z2,z3,z4]) rfl ⟨rfl,v,xD,ly⟩
 .subst e
  have xE:(x1 != ac)=true:=by simpa using hne
  have g5:=(gH.cp he).c5;have Ky:¬ (6=R):=fun e=>by have:=bCq _ _ (hF.cp he).c5;have:=HRW.out;simp at *;omega
  have rQ:¬ (R=6):=fun e=>Ky e.symm;have r0:=ag bT 0 rfl;have q0:=aC bT 0;have r1:=ag bT 1 rfl;have q1:=aC bT 1;have r2:=ag bT 2 rfl;have q2:=aC bT 2;have r3:=ag bT 3 rfl;have q3:=aC bT 3;have r4:=ag bT 4 rfl;have q4:=aC bT 4;go_wp2
  go_region
  go_wp2;have dA:=pE bT 0 0 0 0 0;have bP:=xC aA R (Z 0) (Z 0) (Z 0) (Z 0) (Z 0);have xD:=(gH.aside nE.1 nE.2.1 nE.2.2 (lTq hF.bG.size HRW) bP).later (dN 1);have ly:=(ej.newer bP HRW).below (dN 1);have Ci:((((((aA.setCell (O R 0) (Z 0)).setCell (O R 1) (Z 0)).setCell (O R 2) (Z 0)).setCell (O R 3) (Z 0)).setCell (O R 4) (Z 0)).drewN 1).heap[R]?=some (.cells #[Z 0,Z 0,Z 0,Z 0,Z 0] 197 (0,0)):=dA;clear bP dA;have dA:=Ci;clear Ci;rw[show (((((aA.setCell (O R 0) (Z 0)).setCell (O R 1) (Z 0)).setCell (O R 2) (Z 0)).setCell (O R 3) (Z 0)).setCell (O R 4) (Z 0)).drewN 1=(((((aA.setCell (O R 0) (Z 0)).setCell (O R 1) (Z 0)).setCell (O R 2) (Z 0)).setCell (O R 3) (Z 0)).setCell (O R 4) (Z 0)).drew from rfl]at xD ly dA;generalize (((((aA.setCell (O R 0) (Z 0)).setCell (O R 1) (Z 0)).setCell (O R 2) (Z 0)).setCell (O R 3) (Z 0)).setCell (O R 4) (Z 0)).drew=Wf at *;have z0:=ag dA 0 rfl;have dw:=ag dA 1 rfl;have z2:=ag dA 2 rfl;have z3:=ag dA 3 rfl;have z4:=ag dA 4 rfl;exact bodyPost_ret (v:=.tuple #[.agg #[Z 0,Z 0,Z 0,Z 0,Z 0],.iface 412 (ev 5)]) (by simp[results,results217,go_sem,z0,dw,z2,z3,z4]) rfl ⟨rfl,v,xD,ly⟩
theorem afG(a:Ask)(hF:Hid (bB w W F P I b v L pf n wd h))(he:Hid (eQ w ev))(hok:Hid (Fs.dI L pf))(hk:Hid (Fl.gY a 99=0))(hm:Hid (Fl.mine L a=true)):
  Calls prog 217 #[Rw F,bM a] W fun e W'=>e=.returned (.tuple #[cm (Fl.gA L a),dz ev (Fl.dP L pf a)])/\∃v',bB w W' F P I b v' (Fl.eZ L a) (Fl.kM L pf a) n wd h/\bX W W' P I b v v':=by
 have hit:=Fl.B3 hk;obtain⟨i,hi⟩:∃i:Nat,a.it=i:=⟨a.it.toNat,by omega⟩;have bU:i<3:=by omega
 have lx:a.it.toNat=i:=by omega
 have HK:=Y (fun W' (hb:U W W')=>Cb a 99 W' ((hF.cp he).below hb) (by decide));rw[Fl.Kv hk.out,show dz ev 0=.nilIface from rfl]at HK;have TF:=Fl.Tn hok hk hm;have hX:Fl.gA L a=Cv.nth (L i) (Bk.pos (L i) a.id):=by unfold Fl.gA;rw[if_pos ⟨hk.out,hm.out⟩,lx]
 have hL:Fl.eZ L a=upd L i (Bk.eZ (L i) a.id):=by
  unfold Fl.eZ;rw[if_pos ⟨hk.out,hm.out⟩,lx];have hh:Cv.has (L i) a.id=true:=by have:=hm.out;unfold Fl.mine at this;rw[lx]at this;simp only[Bool.and_eq_true]at this;exact this.1
  have hc0:Bk.dP (L i) a.id=0:=by unfold Bk.dP;rw[if_pos hh]
  unfold Bk.eZ;rw[if_pos hc0]
 have hP:Fl.kM L pf a=Pu.gp pf a.it (Cv.nth (L i) (Bk.pos (L i) a.id)):=by unfold Fl.kM;rw[if_pos ⟨hk.out,hm.out⟩,hX]
 rw[hX,hL,hP,TF.1,show dz ev 0=.nilIface from rfl];clear hX hL hP TF;have hmm:=hm.out;unfold Fl.mine at hmm;rw[lx]at hmm;obtain⟨aW,ac,bn,bw,asd,aR,aq,aP⟩:=a;simp only[]at hi lx;subst hi;unfold bM aX at HK ⊢;simp only[]at HK ⊢;simp only[Bool.and_eq_true,beq_iff_eq]at hmm;obtain⟨hh,how⟩:=hmm;have hgx:Bk.j_ (L i) aP=Cv.nth (L i) (Bk.pos (L i) aP):=by unfold Bk.j_;rw[if_pos hh]
 have Kz:(Cv.nth (L i) (Bk.pos (L i) aP)).id=aP:=Bk.BD (Bk.sW.1 hh);obtain⟨⟨x0,x1,x2,x3,x4⟩,hX⟩:∃X,Cv.nth (L i) (Bk.pos (L i) aP)=X:=⟨_,rfl⟩;rw[hX]at hgx how Kz;rw[hX];simp only[]at how Kz;subst how;subst Kz;have Cf:Hid (Cv.has (L i) x0=true/\Bk.j_ (L i) x0=⟨x0,x1,x2,x3,x4⟩):=⟨hh,hgx⟩;clear hgx hX hh;unfold cm;simp only[];have uX:Hid (∀W',bB w W' F P I b v L pf n wd h->Calls prog 214 #[Rw F,Z i,.agg #[Z x0,Z x1,Z x2,Z x3,Z x4]] W' fun e TG=>e=.returned (.tuple #[])/\∃v',bB w TG F P I b v' (upd L i (Bk.eZ (L i) x0)) (Pu.gp pf i ⟨x0,x1,x2,x3,x4⟩) n wd h/\bX W' TG P I b v v'):=fun W' hf=>TH i bU ⟨x0,x1,x2,x3,x4⟩ hf he hok.good (hok.aO i bU).len;clear hit hk lx;obtain⟨R,hR⟩:=aG (W.heap.size+1);obtain⟨A,hA⟩:=aG W.heap.size;obtain⟨w1,d6⟩:=aG ((W.alloc (.cells #[.int .u8 aW,Z x1,Z bn,Z i,Z asd,Z aR,Z aq,Z x0] 95)).alloc (.cells #[Z 0,Z 0,Z 0,Z 0,Z 0] 197));have hb1:U W w1:=by rw[<- d6];exact aj.alloc (by simp) _
 have HR1:Hid (w1.heap[R]?=some (.cells #[Z 0,Z 0,Z 0,Z 0,Z 0] 197 (0,0))):=by
  show _=_;rw[<- d6,<- hR]
  have:=hNq (W.alloc (.cells #[.int .u8 aW,Z x1,Z bn,Z i,Z asd,Z aR,Z aq,Z x0] 95)) (.cells #[Z 0,Z 0,Z 0,Z 0,Z 0] 197)
  simpa using this
 have HA1:Hid (w1.heap[A]?=some (.cells #[.int .u8 aW,Z x1,Z bn,Z i,Z asd,Z aR,Z aq,Z x0] 95 (0,0))):=by show _=_;rw[<- d6,<- hA];exact(Below.heap_alloc _ _ _ (by simp)).trans (hNq W _)
 have HB1:=Y hb1;have HRW:Hid (W.heap.size<=R):=by show _<=_;omega
 have HW1:=Y d6;have kP:=Y hR;have vy:=Y hA;clear hb1 d6 hR hA;go_enter func217,ntmps217
 go_wp2_with fail
 rw[HW1.out,kP.out,vy.out];refine(HK _ HB1).mono ?_;rintro e w2 ⟨rfl,hb2⟩;have hbW2:=ar HB1 hb2;have b_:=Y ((hb2.block _ (lBq HR1)).trans HR1);have cJ:=Y ((hb2.block _ (lBq HA1)).trans HA1);have dB:=Y (hF.later hbW2);have HS2:=Y (bX.of_below hbW2 P I b v);clear hb2 hbW2;have Cg:(0:Int)<=(i:Int):=by omega
 have TE:(i:Int)<3:=by omega
 simp only[]
 go_wp2_with fail
 obtain⟨bl,val,hcl,ay⟩:=Ch F (I i) A (.cells (vz I P wd h) 210 (0,0)) (.cells (vA (b i) (n (i*2)) (n (i*2+1))) 267 (0,0)) (.cells #[.int .u8 aW,Z x1,Z bn,Z i,Z asd,Z aR,Z aq,Z x0] 95 (0,0));obtain⟨y0,dx⟩:=ay w2.drew ⟨dB.blk,dB.it i bU,cJ⟩;have hnx:Nonempty bl:=⟨y0⟩;have Kw:∀x,(val x).cell? ⟨F,2+i,none⟩=some (.pointer (some ⟨I i,0,none⟩)):=fun x=>by
  rw[cR _ _ _ _ _ _ (hcl x).1];have:i=0\/i=1\/i=2:=by omega
  rcases this with rfl | rfl | rfl <;> rfl
 have eb:=fun x=>ag (hcl x).2.1 0 rfl;have e3:=fun x=>ag (hcl x).2.2 3 rfl;have e7:=fun x=>ag (hcl x).2.2 7 rfl;have hbd:U w2 w2.drew:=⟨rfl,rfl,rfl,E _,fun _ _=>rfl⟩;have eR:=Y (dB.later hbd);have dL:=Y (HS2.below hbd);have cO:Hid (w2.drew.heap[R]?=some (.cells #[Z 0,Z 0,Z 0,Z 0,Z 0] 197 (0,0))):=b_.out;have gF:Hid (w2.drew.heap[A]?=some (.cells #[.int .u8 aW,Z x1,Z bn,Z i,Z asd,Z aR,Z aq,Z x0] 95 (0,0))):=cJ.out;obtain⟨w4,hw4⟩:=aG w2.drew;rw[hw4]at eR dL cO gF;have aH:Hid (∀W',U w4 W'->∃x,val x=W'):=fun W' hb=>ay W' ⟨(eR.later hb).blk,(eR.later hb).it i bU,by rw[hb.block _ (lBq gF.out)];exact gF⟩;have nD:Hid (∀W',U w4 W'->Calls prog 192 #[.pointer (some ⟨b i,0,none⟩),Z x0] W' fun e w'=>e=.returned (.tuple #[.agg #[Z x0,Z x1,Z x2,Z x3,Z x4],.bool true])/\U W' w'):=fun W' hb=>by
  have:=Fi (b i) w.heap.size (v i) x0 (L i) W' ((eR.later hb).aO i bU) (hok.aO i bU).len
  rw[Cf.out.1,Cf.out.2]at this;exact this
 clear ay hcl hbd;refine vB (val:=val) (fun D aA=>aA.heap[D]?=some (.cells #[Z x0,Z x1,Z x2,Z x3,Z x4] 197 (0,0))/\w4.heap.size<=D/\U w4 aA) (.read 0 (.read 1 (.read 2 (.read 3 (.read 4 (.read 5 (.read 6 (.read 7 (.read 8 (.read 9 (.read 10 (.read 11 (.two 12 (.read 13 (.read 14 (.read 15 (.one 16 (.one 17 (.read 18 .done)))))) 16 (.one 12 (.read 13 (.read 14 (.read 15 (.one 17 (.read 18 .done))))))))))))))))))) (by kernel_rfl) (by kernel_rfl) y0 dx ?_;apply Exists.intro;refine⟨?_,?_⟩
 case' refine_1 =>
  rw[dx,hw4]
  iterate 12 (refine cF rfl (fun K hK=>?_);refine⟨by rfl,?_⟩;unfold aQ;go_simp;refine hK _ ?_;clear hK K)
  have iY:Hid (U w4 w4):=bRq _ _;refine⟨?_,?_⟩
  case refine_1 =>
   refine cq rfl (fun K hK=>?_);refine⟨by rfl,?_⟩;unfold aB;go_simp;refine(nD _ iY).mono ?_;rintro e wc ⟨rfl,hbc⟩;have gG:=Y (ar iY hbc);refine⟨_,rfl,aH _ gG,hK _ _ ?_⟩;clear hK K hbc
   iterate 3 (refine cF rfl (fun K hK=>?_);refine⟨by rfl,?_⟩;unfold aQ;go_simp;refine hK _ ?_;clear hK K)
   refine cq rfl (fun K hK=>?_);refine⟨by rfl,?_⟩;unfold aB;go_simp;obtain⟨D,hD⟩:=aG wc.heap.size;obtain⟨aD,hwz⟩:=aG (wc.alloc (.cells #[Z 0,Z 0,Z 0,Z 0,Z 0] 197));rw[hD,hwz];have cA:Hid (U w4 aD):=by show Below _ _ _;rw[<- hwz];exact gG.alloc gG.size _
   have au:Hid (aD.heap[D]?=some (.cells #[Z 0,Z 0,Z 0,Z 0,Z 0] 197 (0,0))):=by show _=_;rw[<- hwz,<- hD];exact hNq _ _
   have fW:Hid (w4.heap.size<=D):=by have:=gG.size;show _<=_;omega
   refine⟨aH _ cA,hK _ _ ?_⟩;clear hK K hwz hD;have c0:=ag au 0 rfl;have f0:=aC au 0;have c1:=ag au 1 rfl;have f1:=aC au 1;have c2:=ag au 2 rfl;have f2:=aC au 2;have c3:=ag au 3 rfl;have f3:=aC au 3;have c4:=ag au 4 rfl;have f4:=aC au 4;have HX:=Y (pE au x0 x1 x2 x3 x4);have bk:=Y (Ca cA fW (Z x0) (Z x1) (Z x2) (Z x3) (Z x4));refine cq rfl (fun K hK=>?_);refine⟨by rfl,?_⟩;unfold aB;go_simp;refine⟨aH _ bk,hK _ _ ?_⟩;clear hK K c0 c1 c2 c3 c4 f0 f1 f2 f3 f4;generalize (((((aD.setCell (O D 0) (Z x0)).setCell (O D 1) (Z x1)).setCell (O D 2) (Z x2)).setCell (O D 3) (Z x3)).setCell (O D 4) (Z x4))=aA at *;refine cF rfl (fun K hK=>?_);refine⟨by rfl,?_⟩;unfold aQ;go_simp;refine hK _ ?_;clear hK K;refine jR ?_;exact⟨D,rfl,HX,fW,bk⟩
  case refine_2 =>
   refine cq rfl (fun K hK=>?_);refine⟨by rfl,?_⟩;unfold aB;go_simp;obtain⟨D,hD⟩:=aG w4.heap.size;obtain⟨jl,hwz⟩:∃aD,w4.alloc (.cells #[Z 0,Z 0,Z 0,Z 0,Z 0] 197)=aD:=⟨_,rfl⟩;rw[hD,hwz];have ez:Hid (U w4 jl):=by show Below _ _ _;rw[<- hwz];exact iY.alloc iY.size _
   have qu:Hid (jl.heap[D]?=some (.cells #[Z 0,Z 0,Z 0,Z 0,Z 0] 197 (0,0))):=by show _=_;rw[<- hwz,<- hD];exact hNq _ _
   have fW:Hid (w4.heap.size<=D):=by have:=iY.size;show _<=_;omega
   refine⟨aH _ ez,hK _ _ ?_⟩;clear hK K hwz hD;refine cq rfl (fun K hK=>?_);refine⟨by rfl,?_⟩;unfold aB;go_simp;refine(nD _ ez).mono ?_;rintro e aD ⟨rfl,hbc⟩;have cA:=Y (ar ez hbc);have au:=Y ((hbc.block _ (lBq qu)).trans qu);refine⟨_,rfl,aH _ cA,hK _ _ ?_⟩;clear hK K hbc
   iterate 3 (refine cF rfl (fun K hK=>?_);refine⟨by rfl,?_⟩;unfold aQ;go_simp;refine hK _ ?_;clear hK K)
   have c0:=ag au 0 rfl;have f0:=aC au 0;have c1:=ag au 1 rfl;have f1:=aC au 1;have c2:=ag au 2 rfl;have f2:=aC au 2;have c3:=ag au 3 rfl;have f3:=aC au 3;have c4:=ag au 4 rfl;have f4:=aC au 4;have HX:=Y (pE au x0 x1 x2 x3 x4);have bk:=Y (Ca cA fW (Z x0) (Z x1) (Z x2) (Z x3) (Z x4));refine cq rfl (fun K hK=>?_);refine⟨by rfl,?_⟩;unfold aB;go_simp;refine⟨aH _ bk,hK _ _ ?_⟩;clear hK K c0 c1 c2 c3 c4 f0 f1 f2 f3 f4;generalize (((((aD.setCell (O D 0) (Z x0)).setCell (O D 1) (Z x1)).setCell (O D 2) (Z x2)).setCell (O D 3) (Z x3)).setCell (O D 4) (Z x4))=aA at *;refine cF rfl (fun K hK=>?_);refine⟨by rfl,?_⟩;unfold aQ;go_simp;refine hK _ ?_;clear hK K;refine jR ?_;exact⟨D,rfl,HX,fW,bk⟩
 intro D aA ⟨qw,qx,hb6⟩;have HX:=Y qw;have gH:=Y (eR.later hb6);have ej:=Y (dL.below hb6);have bT:=Y ((hb6.block _ (lBq cO)).trans cO);have jm:=Y ((hb6.block _ (lBq gF)).trans gF);have HDR:Hid (D≠R):=fun e=>by have:=lBq cO;omega
 have oG:=Y (eR.fresh qx);have nE:=Y (hF.fresh HRW);clear qw qx hb6 hw4;clear dx Kw eb e3 e7 aH;clear y0 hnx;clear val;clear bl;have d0:=ag HX 0 rfl;have d1:=ag HX 1 rfl;have d2:=ag HX 2 rfl;have d3:=ag HX 3 rfl;have d4:=ag HX 4 rfl;have a1:=ag jm 1 rfl;have a3:=ag jm 3 rfl;have xE:(x1 != x1)=false:=by simp
 go_wp2_with fail
 refine(uX aA gH).mono ?_;rintro e dH ⟨rfl,v7,Cj,qy⟩;have ew:=Y ((qy.keep R (lBq bT) nE.2.1 nE.2.2).trans bT);have pG:=Y ((qy.keep D (lBq HX) oG.2.1 oG.2.2).trans HX);have mH:=Y Cj;have lV:=Y (ej.trans qy);have afH:Hid (∀j,j<3->R≠I j/\R≠b j/\(v7 j).ownBlock≠some R):=fun j hj=>⟨(nE.2.2 j hj).1,(nE.2.2 j hj).2.1,fun e=>by
  rcases qy.new j hj R e with h1 | h1
  .exact(nE.2.2 j hj).2.2 h1
  .have:=lBq bT;omega⟩
 clear d0 d1 d2 d3 d4 a1 a3 Cj qy xE;have d0:=ag pG 0 rfl;have d1:=ag pG 1 rfl;have d2:=ag pG 2 rfl;have d3:=ag pG 3 rfl;have d4:=ag pG 4 rfl;have r0:=ag ew 0 rfl;have q0:=aC ew 0;have r1:=ag ew 1 rfl;have q1:=aC ew 1;have r2:=ag ew 2 rfl;have q2:=aC ew 2;have r3:=ag ew 3 rfl;have q3:=aC ew 3;have r4:=ag ew 4 rfl;have q4:=aC ew 4;simp only[];go_wp2;have dA:=pE ew x0 x1 x2 x3 x4;have bP:=xC dH R (Z x0) (Z x1) (Z x2) (Z x3) (Z x4);have xD:=mH.aside nE.1 nE.2.1 afH (lTq hF.bG.size HRW) bP;have ly:=lV.newer bP HRW;clear bP;generalize (((((dH.setCell (O R 0) (Z x0)).setCell (O R 1) (Z x1)).setCell (O R 2) (Z x2)).setCell (O R 3) (Z x3)).setCell (O R 4) (Z x4))=Wf at *;have z0:=ag dA 0 rfl;have dw:=ag dA 1 rfl;have z2:=ag dA 2 rfl;have z3:=ag dA 3 rfl;have z4:=ag dA 4 rfl;exact bodyPost_ret (v:=.tuple #[.agg #[Z x0,Z x1,Z x2,Z x3,Z x4],.nilIface]) (by simp[results,results217,go_sem,z0,dw,z2,z3,z4]) rfl ⟨rfl,v7,xD,ly⟩
theorem afI(a:Ask)(hF:bB w W F P I b v L pf n wd h)(he:eQ w ev)(hok:Fs.dI L pf):
  Calls prog 217 #[Rw F,bM a] W fun e W'=>e=.returned (.tuple #[cm (Fl.gA L a),dz ev (Fl.dP L pf a)])/\∃v',bB w W' F P I b v' (Fl.eZ L a) (Fl.kM L pf a) n wd h/\bX W W' P I b v v':=by
 by_cases hk:Fl.gY a 99=0
 .cases hm:Fl.mine L a with
  | true=>exact afG a hF he hok hk hm
  | false=>exact afF a hF he hok hk hm
 .exact afE a hF he hk
end
end
namespace Fl
open Cv Bk Ra Pu Fu Fs
structure Fits (cash stock:Int):Prop where
 c0:0<=cash
 c1:cash<=1073741824
 s0:0<=stock
 s1:stock<=100000
theorem B5{cash stock:Int}:∀k j,k*8<=j->jQ cash stock k j=0
 | 0,_,_=>rfl
 | k+1,j,h=>by
  have ih:=B5 (cash:=cash) (stock:=stock) k j (by omega);show jB _ _ j=0;unfold jB;split
  .rw[ei _ _ (by show j≠(k:Int).toNat*8+4;omega),ei _ _ (by show j≠(k:Int).toNat*8+3;omega),ei _ _ (by show j≠(k:Int).toNat*8+2;omega),ei _ _ (by show j≠(k:Int).toNat*8;omega),ih]
  .exact ih
theorem Tx{cash stock:Int}(h:Fits cash stock)(k:Nat)(hk:k<6):kj (jQ cash stock k) ⟨k,cash,stock,stock,stock⟩=0:=by
 have e0:=B5 (cash:=cash) (stock:=stock) k (k*8) (E _);have e2:=B5 (cash:=cash) (stock:=stock) k (k*8+2) (by omega);have e3:=B5 (cash:=cash) (stock:=stock) k (k*8+3) (by omega);have e4:=B5 (cash:=cash) (stock:=stock) k (k*8+4) (by omega);have hc0:=h.c0;have hc1:=h.c1;have hs0:=h.s0;have hs1:=h.s1;unfold kj;rw[if_pos,if_neg]
 .simp only[gD.over,Int.toNat_natCast,e0,e2,e3,e4]
  simp;omega
 .simp only[gD.fine,gD.neg,ah.aK]
  simp;omega
theorem Tz{cash stock:Int}:∀k j,zI j->jQ cash stock k j=0
 | 0,_,_=>rfl
 | k+1,j,h=>by
  have ih:=Tz (cash:=cash) (stock:=stock) k j h;obtain⟨c,hc,mG⟩:=h;show jB _ _ j=0;unfold jB;split
  .rw[ei _ _ (by show j≠(k:Int).toNat*8+4;rcases mG with e | ⟨m,hm,e⟩ <;> omega),ei _ _ (by show j≠(k:Int).toNat*8+3;rcases mG with e | ⟨m,hm,e⟩ <;> omega),ei _ _ (by show j≠(k:Int).toNat*8+2;rcases mG with e | ⟨m,hm,e⟩ <;> omega),ei _ _ (by show j≠(k:Int).toNat*8;rcases mG with e | ⟨m,hm,e⟩ <;> omega),ih]
  .exact ih
theorem TA{cash stock:Int}(h:Fits cash stock):∀k,k<=6->eO (jQ cash stock k) 6=k*cash/\∀j,j<3->eP (jQ cash stock k) j 6=k*stock
 | 0,_=>⟨by simp[jQ,eO],fun j _=>by simp[jQ,eP]⟩
 | k+1,hk=>by
  obtain⟨h1,h2⟩:=TA h k (by omega);obtain⟨g1,g2⟩:=afz (Tx h k (by omega));have ec:((k+1:Nat):Int)*cash=k*cash+cash:=by rw[show ((k+1:Nat):Int)=(k:Int)+1 by omega,Int.add_mul,Int.one_mul]
  have es:((k+1:Nat):Int)*stock=k*stock+stock:=by rw[show ((k+1:Nat):Int)=(k:Int)+1 by omega,Int.add_mul,Int.one_mul]
  refine⟨by show eO (jB _ _) 6=_;rw[g1,h1,ec],fun j hj=>?_⟩;show eP (jB _ _) j 6=_;rw[g2 j hj,h2 j hj,es];have:j=0\/j=1\/j=2:=by omega
  rcases this with rfl | rfl | rfl <;> rfl
theorem TB{wd h ref cash stock:Int}(hr:bm.jK wd h=true)(hf:ah.aK ref 1 1000=true)(H:Fits cash stock):dc (fun _=>[]) (jQ cash stock 6) (vw ref) wd h:=by obtain⟨g1,g2⟩:=TA H 6 (E _);have hc1:=H.c1;have hs1:=H.s1;refine⟨⟨fun _ _=>Bk.adH,Kn cash stock 6,afA _ fun j hj=>Tz 6 j hj,by rw[g1];omega,fun k hk=>by rw[g2 k hk];omega⟩,fun i hi=>?_,hr⟩;unfold bm.kC vw;rw[if_pos (by omega),if_neg (by omega),hf];rfl
end Fl
section
open Go.RowKit
section
variable {ev:Nat->Value}
end
section
variable {ev:Nat->Value}
def af5(w w':World)(e:Ending)(wd h ref cash stock:Int):Prop:=∃F P I b,e=.returned (.tuple #[Rw F,.nilIface])/\bB w w' F P I b (fun _=>.slice none 0 0) (fun _=>[]) (Fl.jQ cash stock 6) (Fl.vw ref) wd h
theorem af6(wd h ref cash stock:Int)(w:World)(he:Hid (eQ w ev))(hr:Hid (bm.jK wd h=true))(hf:Hid (ah.aK ref 1 1000=true))(H:Hid (Fl.Fits cash stock)):
  Calls prog 95 #[eo wd h,Z ref,Z cash,Z stock] w fun e w'=>af5 w w' e wd h ref cash stock:=by
 have hb0:U w (w.alloc (.cells #[Z wd,Z h] 43)):=aj;have sZ:=Rz wd h 412 (ev 1) (w.alloc (.cells #[Z wd,Z h] 43)) (he.below hb0).KS;rw[hr.out,show mB 412 (ev 1) true=.nilIface from rfl]at sZ;have Ud:=Y sZ;have cG:=Y hb0;have Ue:(w.alloc (.cells #[Z wd,Z h] 43)).heap[w.heap.size]?=some (.cells #[Z wd,Z h] 43 (0,0)):=hNq _ _;have rR:=Y Ue;clear hb0 sZ Ue;unfold eo at Ud ⊢;have HW1:=Y (fun W=>ib ref 1 1000 W);have HW2:=Y (fun W=>ib cash 0 1073741824 W);have HW3:=Y (fun W=>ib stock 0 100000 W);have e1:ah.aK cash 0 1073741824=true:=by have:=H.c0;have:=H.c1;simp[ah.aK];omega
 have e2:ah.aK stock 0 100000=true:=by have:=H.s0;have:=H.s1;simp[ah.aK];omega
 rw[hf.out]at HW1;rw[e1]at HW2;rw[e2]at HW3;clear e1 e2;go_enter func95,ntmps95
 go_wp2_with fail
 refine Ud.mono ?_;rintro e w2 ⟨rfl,hb2⟩;have lz:=Y (ar cG hb2);have Cp:=Y ((hb2.block _ (lBq rR)).trans rR);clear hb2;obtain⟨FR,FT⟩:=aG w.heap.size;rw[FT]at Cp;rw[FT];have kP:=Y FT;clear FT;simp only[]
 go_wp2_with fail
 refine(HW1 _).mono ?_;rintro e w2 ⟨rfl,rfl⟩;simp only[]
 go_wp2_with fail
 refine(HW2 _).mono ?_;rintro e w2 ⟨rfl,rfl⟩;simp only[]
 go_wp2_with fail
 refine(HW3 _).mono ?_;rintro e w2 ⟨rfl,rfl⟩;simp only[]
 go_wp2_with fail
 obtain⟨bl,val,hcl,ay⟩:=Ch FR FR FR (.cells #[Z wd,Z h] 43 (0,0)) (.cells #[Z wd,Z h] 43 (0,0)) (.cells #[Z wd,Z h] 43 (0,0));have aH:=Y ay;obtain⟨y0,dx⟩:=ay w2.drew ⟨Cp,Cp,Cp⟩;have hnx:Nonempty bl:=⟨y0⟩;have u0:=fun x=>ag (hcl x).1 0 rfl;have u1:=fun x=>ag (hcl x).1 1 rfl;clear ay hcl;have hbd:U w2 w2.drew:=⟨rfl,rfl,rfl,E _,fun _ _=>rfl⟩;have xK:=Y (ar lz hbd);have Uf:Hid (w2.drew.heap[FR]?=some (.cells #[Z wd,Z h] 43 (0,0))):=Cp.out;clear hbd;refine B_ (val:=val) (.read 0 (.one 1 (.read 2 (.one 3 (.read 4 .done))))) (by kernel_rfl) (by kernel_rfl) y0 dx ?_;rw[dx];clear dx;generalize w2.drew=w3 at *;refine cF rfl (fun K hK=>?_);refine⟨by rfl,?_⟩;unfold aQ;go_simp;refine hK _ ?_;clear hK K;refine cq rfl (fun K hK=>?_);refine⟨by rfl,?_⟩;unfold aB;go_simp;refine(af7 _).mono ?_;rintro e w4 ⟨rfl,hw4⟩;have hbc:U w3 w4:=by rw[hw4];exact aj
 obtain⟨P,hP⟩:=aG w3.heap.size;have tr:Hid (w4.heap[P]?=some (.cells (eT fun _=>0) 213 (0,0))):=by show _=_;rw[hw4,<- hP];exact hNq _ _
 have Cq:=Y ((hbc.block _ (lBq Uf)).trans Uf);have tu:=Y (ar xK hbc);have af8:Hid (w.heap.size<=P):=by have:=xK.size;show _<=_;omega
 refine⟨_,rfl,aH _ ⟨Cq,Cq,Cq⟩,hK _ _ ?_⟩;rw[hP];clear hK K hbc hw4 hP;refine cF rfl (fun K hK=>?_);refine⟨by rfl,?_⟩;unfold aQ;go_simp;refine hK _ ?_;clear hK K;refine cq rfl (fun K hK=>?_);refine⟨by rfl,?_⟩;unfold aB;go_simp;obtain⟨F,hF⟩:=aG w4.heap.size;obtain⟨aI,lA⟩:∃x,w4.alloc (.cells #[Z wd,Z h,.pointer none,.pointer none,.pointer none,Rw P] 210)=x:=⟨_,rfl⟩;have hbc:U w4 aI:=by rw[<- lA];exact aj
 have lX:Hid (aI.heap[F]?=some (.cells #[Z wd,Z h,.pointer none,.pointer none,.pointer none,Rw P] 210 (0,0))):=by show _=_;rw[<- lA,<- hF];exact hNq _ _
 have pI:=Y ((hbc.block _ (lBq tr)).trans tr);have KX:=Y ((hbc.block _ (lBq Cq)).trans Cq);have Ug:=Y (ar tu hbc);have FU:Hid (w.heap.size<=F):=by have:=tu.size;show _<=_;omega
 rw[hF,lA];refine⟨aH _ ⟨KX,KX,KX⟩,hK _ _ ?_⟩;clear hK K hbc lA hF;refine cF rfl (fun K hK=>?_);refine⟨by rfl,?_⟩;unfold aQ;go_simp;refine hK _ ?_;clear hK K;refine jR ?_;clear u0 u1 aH;clear y0 hnx;clear val;clear bl;obtain⟨S,hS⟩:=aG aI.heap.size;obtain⟨tv,tq⟩:∃x,aI.alloc (.cells #[Z 0,Z 0,Z 0] 138)=x:=⟨_,rfl⟩;have hbc:U aI tv:=by rw[<- tq];exact aj
 have Uh:Hid (tv.heap[S]?=some (.cells #[Z 0,Z 0,Z 0] 138 (0,0))):=by show _=_;rw[<- tq,<- hS];exact hNq _ _
 have Ui:=Y ((hbc.block _ (lBq lX)).trans lX);have Uj:=Y ((hbc.block _ (lBq pI)).trans pI);have af9:=Y (ar Ug hbc);have iX:Hid (w.heap.size<=S):=by have:=Ug.size;show _<=_;omega
 have FM:=Y tq;have KP:=Y hS;clear hbc tq hS;go_wp2;rw[FM.out,KP.out];refine wp_loop_rounds 4 ?_;rw[rounds_succ]
 go_wp2_with fail
 have hnx:Nonempty World:=⟨tv⟩;refine B_ (X:=World) (val:=fun x=>x) (.read 0 (.read 1 (.read 3 (.read 4 (.read 7 (.read 8 (.one 2 (.read 5 (.one 6 (.read 9 (.one 10 .done))))))))))) (by kernel_rfl) (by kernel_rfl) tv.drew rfl ?_;have hbd:U tv tv.drew:=⟨rfl,rfl,rfl,E _,fun _ _=>rfl⟩;have KY:=Y ((hbd.block _ (lBq Ui)).trans Ui);have KZ:=Y ((hbd.block _ (lBq Uh)).trans Uh);have K3:=Y ((hbd.block _ (lBq Uj)).trans Uj);have Uk:=Y (ar af9 hbd);clear hbd;show lT _ _ _ _ _ _ tv.drew;generalize tv.drew=K4 at *
 iterate 6 (refine cF rfl (fun K hK=>?_);refine⟨by rfl,?_⟩;unfold aQ;go_simp;refine hK _ ?_;clear hK K)
 refine cq rfl (fun K hK=>?_);refine⟨by rfl,?_⟩;unfold aB;go_simp;refine(JM _).mono ?_;rintro e zR ⟨rfl,hwc⟩;have hbc:U K4 zR:=by rw[hwc];exact aj
 obtain⟨B0,hB0⟩:∃B,K4.heap.size=B:=⟨_,rfl⟩;have Ul:Hid (zR.heap[B0]?=some (.cells #[.slice none 0 0] 276 (0,0))):=by show _=_;rw[hwc,<- hB0];exact hNq _ _
 have K5:=Y ((hbc.block _ (lBq KY)).trans KY);have K6:=Y ((hbc.block _ (lBq KZ)).trans KZ);have Um:=Y ((hbc.block _ (lBq K3)).trans K3);have Un:=Y (ar Uk hbc);have aga:Hid (w.heap.size<=B0):=by have:=Uk.size;show _<=_;omega
 refine⟨_,rfl,hK _ _ ?_⟩;rw[hB0];have as7:Hid (B0≠F/\B0≠S/\B0≠P):=by have l1:=lBq KY;have l2:=lBq KZ;have l3:=lBq K3;refine⟨by omega,by omega,by omega⟩
 clear hK K hbc hwc hB0;refine cF rfl (fun K hK=>?_);refine⟨by rfl,?_⟩;unfold aQ;go_simp;refine hK _ ?_;clear hK K;refine cq rfl (fun K hK=>?_);refine⟨by rfl,?_⟩;unfold aB;go_simp;obtain⟨pJ,pK⟩:∃I,zR.heap.size=I:=⟨_,rfl⟩;obtain⟨FV,hwd⟩:∃x,zR.alloc (.cells #[Rw B0,Z ref,Z 0] 267)=x:=⟨_,rfl⟩;have hbd:U zR FV:=by rw[<- hwd];exact aj
 have K7:Hid (FV.heap[pJ]?=some (.cells #[Rw B0,Z ref,Z 0] 267 (0,0))):=by show _=_;rw[<- hwd,<- pK];exact hNq _ _
 rw[pK,hwd];have vG:=Y ((hbd.block _ (lBq K5)).trans K5);have K8:=Y ((hbd.block _ (lBq K6)).trans K6);have K9:=Y ((hbd.block _ (lBq Um)).trans Um);have K_:=Y ((hbd.block _ (lBq Ul)).trans Ul);have Uo:=Y (ar Un hbd);have agb:Hid (w.heap.size<=pJ):=by have:=Un.size;show _<=_;omega
 have as8:Hid (pJ≠F/\pJ≠S):=by have l1:=lBq K5;have l2:=lBq K6;refine⟨by omega,by omega⟩
 refine hK _ _ ?_;clear hK K hbd hwd pK;refine cF rfl (fun K hK=>?_);refine⟨by rfl,?_⟩;unfold aQ;go_simp;refine hK _ ?_;clear hK K;have c0:=ag vG 2 rfl;have f0:=aC vG 2;obtain⟨FW,nH⟩:∃x,FV.setCell (O F 2) (Rw pJ)=x:=⟨_,rfl⟩;have bP:aU FV FW F:=by rw[<- nH];exact aU.setCell _ _ _ _
 have La:Hid (FW.heap[F]?=some (.cells #[Z wd,Z h,Rw pJ,.pointer none,.pointer none,Rw P] 210 (0,0))):=by show _=_;rw[<- nH,setCell_eq_setRow _ F 2 _ _ _ _ vG.out];exact setRow_heap _ F _ _ _ _ vG
 have vH:=Y ((bP.block _ (lBq K8) (aN K8 vG (by decide))).trans K8);have Lb:=Y ((bP.block _ (lBq K9) (aN K9 vG (by decide))).trans K9);have Lc:=Y ((bP.block _ (lBq K_) (aN K_ vG (by decide))).trans K_);have Ld:=Y ((bP.block _ (lBq K7) (aN K7 vG (by decide))).trans K7);have Up:=Y (Uo.trans (bP.below Uo.size FU));have Cr:=Y nH;clear nH;refine cq rfl (fun K hK=>?_);refine⟨by rfl,?_⟩;unfold aB;go_simp;rw[Cr.out];refine hK _ _ ?_;clear hK K c0 f0 bP hnx;refine jR ?_;have c0:=ag vH 0 rfl;have f0:=aC vH 0;obtain⟨tx,hwf⟩:∃x,FW.setCell (O S 0) (Z stock)=x:=⟨_,rfl⟩;have bP:aU FW tx S:=by rw[<- hwf];exact aU.setCell _ _ _ _
 have Uq:Hid (tx.heap[S]?=some (.cells #[Z stock,Z 0,Z 0] 138 (0,0))):=by show _=_;rw[<- hwf,setCell_eq_setRow _ S 0 _ _ _ _ vH.out];exact setRow_heap _ S _ _ _ _ vH
 have Ur:=Y ((bP.block _ (lBq La) (aN La vH (by decide))).trans La);have Us:=Y ((bP.block _ (lBq Lb) (aN Lb vH (by decide))).trans Lb);have Ut:=Y ((bP.block _ (lBq Ld) (aN Ld vH (by decide))).trans Ld);have Uu:=Y ((bP.block _ (lBq Lc) (aN Lc vH (by decide))).trans Lc);have agc:=Y (Up.trans (bP.below Up.size iX));have Ct:=Y hwf;clear hwf bP;go_wp2;rw[Ct.out];clear c0 f0;rw[rounds_succ]
 go_wp2_with fail
 have hnx:Nonempty World:=⟨tx⟩;refine B_ (X:=World) (val:=fun x=>x) (.read 0 (.read 1 (.read 3 (.read 4 (.read 7 (.read 8 (.one 2 (.read 5 (.one 6 (.read 9 (.one 10 .done))))))))))) (by kernel_rfl) (by kernel_rfl) tx.drew rfl ?_;have hbd:U tx tx.drew:=⟨rfl,rfl,rfl,E _,fun _ _=>rfl⟩;have Le:=Y ((hbd.block _ (lBq Ur)).trans Ur);have Lf:=Y ((hbd.block _ (lBq Uq)).trans Uq);have Lg:=Y ((hbd.block _ (lBq Us)).trans Us);have Uv:=Y ((hbd.block _ (lBq Ut)).trans Ut);have Lh:=Y ((hbd.block _ (lBq Uu)).trans Uu);have Uw:=Y (ar agc hbd);clear hbd;show lT _ _ _ _ _ _ tx.drew;generalize tx.drew=Li at *
 iterate 6 (refine cF rfl (fun K hK=>?_);refine⟨by rfl,?_⟩;unfold aQ;go_simp;refine hK _ ?_;clear hK K)
 refine cq rfl (fun K hK=>?_);refine⟨by rfl,?_⟩;unfold aB;go_simp;refine(JM _).mono ?_;rintro e zS ⟨rfl,hwc⟩;have hbc:U Li zS:=by rw[hwc];exact aj
 obtain⟨B1,qm⟩:∃B,Li.heap.size=B:=⟨_,rfl⟩;have Ux:Hid (zS.heap[B1]?=some (.cells #[.slice none 0 0] 276 (0,0))):=by show _=_;rw[hwc,<- qm];exact hNq _ _
 have Lj:=Y ((hbc.block _ (lBq Le)).trans Le);have Ll:=Y ((hbc.block _ (lBq Lf)).trans Lf);have Uy:=Y ((hbc.block _ (lBq Lg)).trans Lg);have Lm:=Y ((hbc.block _ (lBq Uv)).trans Uv);have Uz:=Y ((hbc.block _ (lBq Lh)).trans Lh);have UA:=Y (ar Uw hbc);have agd:Hid (w.heap.size<=B1):=by have:=Uw.size;show _<=_;omega
 refine⟨_,rfl,hK _ _ ?_⟩;rw[qm];have age:Hid (B1≠F/\B1≠S/\B1≠P/\B1≠B0):=by have l1:=lBq Le;have l2:=lBq Lf;have l3:=lBq Lg;have Ln:=lBq Lh;refine⟨by omega,by omega,by omega,by omega⟩
 clear hK K hbc hwc qm;refine cF rfl (fun K hK=>?_);refine⟨by rfl,?_⟩;unfold aQ;go_simp;refine hK _ ?_;clear hK K;refine cq rfl (fun K hK=>?_);refine⟨by rfl,?_⟩;unfold aB;go_simp;obtain⟨qD,tB⟩:∃I,zS.heap.size=I:=⟨_,rfl⟩;obtain⟨zn,hwd⟩:∃x,zS.alloc (.cells #[Rw B1,Z ref,Z 0] 267)=x:=⟨_,rfl⟩;have hbd:U zS zn:=by rw[<- hwd];exact aj
 have Lp:Hid (zn.heap[qD]?=some (.cells #[Rw B1,Z ref,Z 0] 267 (0,0))):=by show _=_;rw[<- hwd,<- tB];exact hNq _ _
 rw[tB,hwd];have rT:=Y ((hbd.block _ (lBq Lj)).trans Lj);have Lr:=Y ((hbd.block _ (lBq Ll)).trans Ll);have Ls:=Y ((hbd.block _ (lBq Uy)).trans Uy);have Lt:=Y ((hbd.block _ (lBq Lm)).trans Lm);have Lu:=Y ((hbd.block _ (lBq Uz)).trans Uz);have Lv:=Y ((hbd.block _ (lBq Ux)).trans Ux);have UB:=Y (ar UA hbd);have agf:Hid (w.heap.size<=qD):=by have:=UA.size;show _<=_;omega
 have agh:Hid (qD≠F/\qD≠S/\qD≠pJ):=by have l1:=lBq Lj;have l2:=lBq Ll;have Ln:=lBq Lm;refine⟨by omega,by omega,by omega⟩
 refine hK _ _ ?_;clear hK K hbd hwd tB;refine cF rfl (fun K hK=>?_);refine⟨by rfl,?_⟩;unfold aQ;go_simp;refine hK _ ?_;clear hK K;have c0:=ag rT 3 rfl;have f0:=aC rT 3;obtain⟨we1,nH⟩:∃x,zn.setCell (O F 3) (Rw qD)=x:=⟨_,rfl⟩;have bP:aU zn we1 F:=by rw[<- nH];exact aU.setCell _ _ _ _
 have Lx:Hid (we1.heap[F]?=some (.cells #[Z wd,Z h,Rw pJ,Rw qD,.pointer none,Rw P] 210 (0,0))):=by show _=_;rw[<- nH,setCell_eq_setRow _ F 3 _ _ _ _ rT.out];exact setRow_heap _ F _ _ _ _ rT
 have rU:=Y ((bP.block _ (lBq Lr) (aN Lr rT (by decide))).trans Lr);have LA:=Y ((bP.block _ (lBq Ls) (aN Ls rT (by decide))).trans Ls);have LB:=Y ((bP.block _ (lBq Lt) (aN Lt rT (by decide))).trans Lt);have LC:=Y ((bP.block _ (lBq Lu) (aN Lu rT (by decide))).trans Lu);have LD:=Y ((bP.block _ (lBq Lv) (aN Lv rT (by decide))).trans Lv);have LF:=Y ((bP.block _ (lBq Lp) (aN Lp rT (by decide))).trans Lp);have UC:=Y (UB.trans (bP.below UB.size FU));have Cr:=Y nH;clear nH;refine cq rfl (fun K hK=>?_);refine⟨by rfl,?_⟩;unfold aB;go_simp;rw[Cr.out];refine hK _ _ ?_;clear hK K c0 f0 bP hnx;refine jR ?_;have c0:=ag rU 1 rfl;have f0:=aC rU 1;obtain⟨tC,hwf⟩:∃x,we1.setCell (O S 1) (Z stock)=x:=⟨_,rfl⟩;have bP:aU we1 tC S:=by rw[<- hwf];exact aU.setCell _ _ _ _
 have UD:Hid (tC.heap[S]?=some (.cells #[Z stock,Z stock,Z 0] 138 (0,0))):=by show _=_;rw[<- hwf,setCell_eq_setRow _ S 1 _ _ _ _ rU.out];exact setRow_heap _ S _ _ _ _ rU
 have UE:=Y ((bP.block _ (lBq Lx) (aN Lx rU (by decide))).trans Lx);have UF:=Y ((bP.block _ (lBq LA) (aN LA rU (by decide))).trans LA);have UG:=Y ((bP.block _ (lBq LB) (aN LB rU (by decide))).trans LB);have UH:=Y ((bP.block _ (lBq LC) (aN LC rU (by decide))).trans LC);have UI:=Y ((bP.block _ (lBq LF) (aN LF rU (by decide))).trans LF);have UJ:=Y ((bP.block _ (lBq LD) (aN LD rU (by decide))).trans LD);have agi:=Y (UC.trans (bP.below UC.size iX));have Ct:=Y hwf;clear hwf bP;go_wp2;rw[Ct.out];clear c0 f0;rw[rounds_succ]
 go_wp2_with fail
 have hnx:Nonempty World:=⟨tC⟩;refine B_ (X:=World) (val:=fun x=>x) (.read 0 (.read 1 (.read 3 (.read 4 (.read 7 (.read 8 (.one 2 (.read 5 (.one 6 (.read 9 (.one 10 .done))))))))))) (by kernel_rfl) (by kernel_rfl) tC.drew rfl ?_;have hbd:U tC tC.drew:=⟨rfl,rfl,rfl,E _,fun _ _=>rfl⟩;have LG:=Y ((hbd.block _ (lBq UE)).trans UE);have LH:=Y ((hbd.block _ (lBq UD)).trans UD);have LI:=Y ((hbd.block _ (lBq UF)).trans UF);have UK:=Y ((hbd.block _ (lBq UG)).trans UG);have LJ:=Y ((hbd.block _ (lBq UH)).trans UH);have UL:=Y ((hbd.block _ (lBq UI)).trans UI);have LK:=Y ((hbd.block _ (lBq UJ)).trans UJ);have UM:=Y (ar agi hbd);clear hbd;show lT _ _ _ _ _ _ tC.drew;generalize tC.drew=LM at *
 iterate 6 (refine cF rfl (fun K hK=>?_);refine⟨by rfl,?_⟩;unfold aQ;go_simp;refine hK _ ?_;clear hK K)
 refine cq rfl (fun K hK=>?_);refine⟨by rfl,?_⟩;unfold aB;go_simp;refine(JM _).mono ?_;rintro e zT ⟨rfl,hwc⟩;have hbc:U LM zT:=by rw[hwc];exact aj
 obtain⟨B2,iW⟩:∃B,LM.heap.size=B:=⟨_,rfl⟩;have UN:Hid (zT.heap[B2]?=some (.cells #[.slice none 0 0] 276 (0,0))):=by show _=_;rw[hwc,<- iW];exact hNq _ _
 have LO:=Y ((hbc.block _ (lBq LG)).trans LG);have LP:=Y ((hbc.block _ (lBq LH)).trans LH);have UO:=Y ((hbc.block _ (lBq LI)).trans LI);have LQ:=Y ((hbc.block _ (lBq UK)).trans UK);have UQ:=Y ((hbc.block _ (lBq LJ)).trans LJ);have LR:=Y ((hbc.block _ (lBq UL)).trans UL);have UR:=Y ((hbc.block _ (lBq LK)).trans LK);have US:=Y (ar UM hbc);have agj:Hid (w.heap.size<=B2):=by have:=UM.size;show _<=_;omega
 refine⟨_,rfl,hK _ _ ?_⟩;rw[iW];have agk:Hid (B2≠F/\B2≠S/\B2≠P/\B2≠B0/\B2≠B1):=by have l1:=lBq LG;have l2:=lBq LH;have l3:=lBq LI;have Ln:=lBq LJ;have agl:=lBq LK;refine⟨by omega,by omega,by omega,by omega,by omega⟩
 clear hK K hbc hwc iW;refine cF rfl (fun K hK=>?_);refine⟨by rfl,?_⟩;unfold aQ;go_simp;refine hK _ ?_;clear hK K;refine cq rfl (fun K hK=>?_);refine⟨by rfl,?_⟩;unfold aB;go_simp;obtain⟨I2,hI2⟩:∃I,zT.heap.size=I:=⟨_,rfl⟩;obtain⟨wd2,hwd⟩:∃x,zT.alloc (.cells #[Rw B2,Z ref,Z 0] 267)=x:=⟨_,rfl⟩;have hbd:U zT wd2:=by rw[<- hwd];exact aj
 have LU:Hid (wd2.heap[I2]?=some (.cells #[Rw B2,Z ref,Z 0] 267 (0,0))):=by show _=_;rw[<- hwd,<- hI2];exact hNq _ _
 rw[hI2,hwd];have pM:=Y ((hbd.block _ (lBq LO)).trans LO);have LV:=Y ((hbd.block _ (lBq LP)).trans LP);have LW:=Y ((hbd.block _ (lBq UO)).trans UO);have LX:=Y ((hbd.block _ (lBq LQ)).trans LQ);have LY:=Y ((hbd.block _ (lBq UQ)).trans UQ);have LZ:=Y ((hbd.block _ (lBq LR)).trans LR);have L5:=Y ((hbd.block _ (lBq UR)).trans UR);have L6:=Y ((hbd.block _ (lBq UN)).trans UN);have UT:=Y (ar US hbd);have agm:Hid (w.heap.size<=I2):=by have:=US.size;show _<=_;omega
 have agn:Hid (I2≠F/\I2≠S/\I2≠pJ/\I2≠qD):=by have l1:=lBq LO;have l2:=lBq LP;have Ln:=lBq LQ;have agl:=lBq LR;refine⟨by omega,by omega,by omega,by omega⟩
 refine hK _ _ ?_;clear hK K hbd hwd hI2;refine cF rfl (fun K hK=>?_);refine⟨by rfl,?_⟩;unfold aQ;go_simp;refine hK _ ?_;clear hK K;have c0:=ag pM 4 rfl;have f0:=aC pM 4;obtain⟨we2,nH⟩:∃x,wd2.setCell (O F 4) (Rw I2)=x:=⟨_,rfl⟩;have bP:aU wd2 we2 F:=by rw[<- nH];exact aU.setCell _ _ _ _
 have L8:Hid (we2.heap[F]?=some (.cells #[Z wd,Z h,Rw pJ,Rw qD,Rw I2,Rw P] 210 (0,0))):=by show _=_;rw[<- nH,setCell_eq_setRow _ F 4 _ _ _ _ pM.out];exact setRow_heap _ F _ _ _ _ pM
 have pN:=Y ((bP.block _ (lBq LV) (aN LV pM (by decide))).trans LV);have L9:=Y ((bP.block _ (lBq LW) (aN LW pM (by decide))).trans LW);have L_:=Y ((bP.block _ (lBq LX) (aN LX pM (by decide))).trans LX);have Ma:=Y ((bP.block _ (lBq LY) (aN LY pM (by decide))).trans LY);have Mc:=Y ((bP.block _ (lBq LZ) (aN LZ pM (by decide))).trans LZ);have Md:=Y ((bP.block _ (lBq L5) (aN L5 pM (by decide))).trans L5);have Me:=Y ((bP.block _ (lBq L6) (aN L6 pM (by decide))).trans L6);have Mf:=Y ((bP.block _ (lBq LU) (aN LU pM (by decide))).trans LU);have UU:=Y (UT.trans (bP.below UT.size FU));have Cr:=Y nH;clear nH;refine cq rfl (fun K hK=>?_);refine⟨by rfl,?_⟩;unfold aB;go_simp;rw[Cr.out];refine hK _ _ ?_;clear hK K c0 f0 bP hnx;refine jR ?_;have c0:=ag pN 2 rfl;have f0:=aC pN 2;obtain⟨Mg,hwf⟩:∃x,we2.setCell (O S 2) (Z stock)=x:=⟨_,rfl⟩;have bP:aU we2 Mg S:=by rw[<- hwf];exact aU.setCell _ _ _ _
 have agp:Hid (Mg.heap[S]?=some (.cells #[Z stock,Z stock,Z stock] 138 (0,0))):=by show _=_;rw[<- hwf,setCell_eq_setRow _ S 2 _ _ _ _ pN.out];exact setRow_heap _ S _ _ _ _ pN
 have agq:=Y ((bP.block _ (lBq L8) (aN L8 pN (by decide))).trans L8);have agr:=Y ((bP.block _ (lBq L9) (aN L9 pN (by decide))).trans L9);have ags:=Y ((bP.block _ (lBq L_) (aN L_ pN (by decide))).trans L_);have agt:=Y ((bP.block _ (lBq Ma) (aN Ma pN (by decide))).trans Ma);have agu:=Y ((bP.block _ (lBq Mc) (aN Mc pN (by decide))).trans Mc);have agv:=Y ((bP.block _ (lBq Md) (aN Md pN (by decide))).trans Md);have agw:=Y ((bP.block _ (lBq Mf) (aN Mf pN (by decide))).trans Mf);have agx:=Y ((bP.block _ (lBq Me) (aN Me pN (by decide))).trans Me);have agy:=Y (UU.trans (bP.below UU.size iX));have Ct:=Y hwf;clear hwf bP;go_wp2;rw[Ct.out];clear c0 f0;rw[rounds_succ];go_wp2;obtain⟨I,hI⟩:∃I:Nat->Nat,I=fun j=>if j=0 then pJ else if j=1 then qD else I2:=⟨_,rfl⟩;obtain⟨b,hb⟩:∃b:Nat->Nat,b=fun j=>if j=0 then B0 else if j=1 then B1 else B2:=⟨_,rfl⟩;have pK:I 0=pJ:=by rw[hI];rfl
 have tB:I 1=qD:=by rw[hI];rfl
 have hI2:I 2=I2:=by rw[hI];rfl
 have hb0:b 0=B0:=by rw[hb];rfl
 have hb1:b 1=B1:=by rw[hb];rfl
 have hb2:b 2=B2:=by rw[hb];rfl
 have c3:∀j,j<3->j=0\/j=1\/j=2:=fun j hj=>by omega
 have hfl:bB w Mg F P I b (fun _=>.slice none 0 0) (fun _=>[]) (Fl.jQ cash stock 0) (Fl.vw ref) wd h:=by
  refine⟨by unfold vz;rw[pK,tB,hI2];exact agq,fun j hj=>?_,fun j hj=>?_,fun j k hj hk hjk=>?_,fun j k hj hk hjk=>?_,fun j k hj hk hjk m hm=>(by cases hm),agr,FU,af8,fun j hj=>?_,agy⟩
  .rcases c3 j hj with rfl | rfl | rfl
   .rw[pK,hb0];exact ags
   .rw[tB,hb1];exact agu
   .rw[hI2,hb2];exact agw
  .rcases c3 j hj with rfl | rfl | rfl
   .rw[hb0];exact⟨agt,aga,World.ownsRow_nil _ _ _ _⟩
   .rw[hb1];exact⟨agv,agd,World.ownsRow_nil _ _ _ _⟩
   .rw[hb2];exact⟨agx,agj,World.ownsRow_nil _ _ _ _⟩
  .have n1:=agh.out;have n2:=agn.out
   rcases c3 j hj with rfl | rfl | rfl <;> rcases c3 k hk with rfl | rfl | rfl <;> (try exact absurd rfl hjk) <;> simp only[pK,tB,hI2] <;> omega
  .have n1:=age.out;have n2:=agk.out
   rcases c3 j hj with rfl | rfl | rfl <;> rcases c3 k hk with rfl | rfl | rfl <;> (try exact absurd rfl hjk) <;> simp only[hb0,hb1,hb2] <;> omega
  .rcases c3 j hj with rfl | rfl | rfl
   .rw[pK];exact agb
   .rw[tB];exact agf
   .rw[hI2];exact agm
 have vI:=Y hfl;have FX:=Y (fun k (hk:k<6)=>Fl.Tx H k hk);clear hfl hI hb pK tB hI2 hb0 hb1 hb2 c3
 go_loopw [56] (fun c wr=>∃(k:Nat),k<=6/\c=Z k/\bB w wr F P I b (fun _=>.slice none 0 0) (fun _=>[]) (Fl.jQ cash stock k) (Fl.vw ref) wd h/\wr.heap[S]?=some (.cells #[Z stock,Z stock,Z stock] 138 (0,0))) (fun c _=>6-(intOf c).toNat)
 case atStart=>exact⟨0,by omega,rfl,vI,agp⟩
 case round =>
  obtain⟨k,hk,rfl,hf,ha⟩:=hrel;have HF:=Y hf;have HA:=Y ha;clear hf ha;by_cases hlt:k<6
  .have aT:(k:Int)<6:=by omega
   have fp:=HF.cellP;have a0:=ag HA 0 rfl;have a1:=ag HA 1 rfl;have a2:=ag HA 2 rfl
   go_wp2_with fail
   refine jO 7 (by kernel_rfl) (by kernel_rfl) ?_;simp only[List.take_succ_cons,List.take_zero,List.drop_succ_cons,List.drop_zero]
   repeat (first | go_big_quiet_step (fail) | quiet_step (fail))
   refine wpQuiet_nil ?_;intro _ hw';obtain⟨nq,hw''⟩:=hw';subst hw'';have cJ:Hid ((wr.drewN nq).heap[S]?=some (.cells #[Z stock,Z stock,Z stock] 138 (0,0))):=HA.out;have dB:=Y (HF.later (dN nq));clear fp a0 a1 a2;generalize wr.drewN nq=wg at *;have hg:=agz P ⟨k,cash,stock,stock,stock⟩ (Fl.jQ cash stock k) ev wg (dB.cp he).per dB.dJ (Fl.Kn cash stock k);rw[FX.out k hlt,show dz ev 0=.nilIface from rfl]at hg;have HG:=Y hg;clear hg;unfold UW at HG;simp only[]at HG
   go_wp2_with fail
   refine HG.mono ?_;rintro e vJ ⟨rfl,hp,hs⟩;have jq:Hid (bB w vJ F P I b (fun _=>.slice none 0 0) (fun _=>[]) (Fl.jQ cash stock (k+1)) (Fl.vw ref) wd h):=dB.purse hp hs;have ko:Hid (vJ.heap[S]?=some (.cells #[Z stock,Z stock,Z stock] 138 (0,0))):=by show _=_;rw[hs.block _ (lBq cJ.out) (aN cJ.out dB.out.dJ (by decide))];exact cJ
   clear hp hs;simp only[];go_wp2;refine⟨⟨k+1,by omega,by go_num,jq,ko⟩,by simp[intOf];omega⟩
  .have aT:¬ (k:Int)<6:=by omega
   obtain rfl:k=6:=by omega
   go_wp2;go_ret2;exact⟨F,P,I,b,rfl,HF⟩
end
end
end Go.Proofs.YtjolccidheflpaaGreatDoor
