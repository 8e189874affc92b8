/- A script's player in memory; a command looked up. -/
import Derived.Test.YtjolccidheflpaaGreatDoorX49
namespace Go.Proofs.YtjolccidheflpaaGreatDoor
open Go.Proofs.Tryz
set_option maxHeartbeats 8000000
set_option maxRecDepth 100000
section
open Go.RowKit Go.MapKept
namespace bg
theorem yK.keep{S S':Nat->Prop}{M:Nat}{W W':World}(h:yK S M W)(hM:S M)(hk:∀b,S b->b<W.heap.size->S' b/\W'.heap[b]?=W.heap[b]?):yK S' M W':=by
 have hc:∀{b:Nat} {o:Obj},S b->W.heap[b]?=some o->S' b/\W'.heap[b]?=some o:=fun {b o} hs ho=>by
  obtain⟨h1,h2⟩:=hk b hs (lt_of_some ho);exact⟨h1,h2.trans ho⟩
 obtain⟨⟨es,cl,h1,h2⟩,h3⟩:=h;refine⟨⟨es,cl,(hc hM h1).2,fun e he=>(h2 e he).imp fun k hk2=>⟨hk2.1,hk2.2.mono (fun hs ho=>hc hs ho)⟩⟩,fun x hx=>?_⟩;obtain⟨yN,yO,g1,g2⟩:=h3 x hx;exact⟨yN,yO,(hc hM g1).2,g2⟩
theorem am0{S:Nat->Prop}{M:Nat}{w:World}(h:yK S M w)(n:ByteArray):
  (∃c s f cs,tab n=some c/\(Instr.lookup 150 (.map (some M)) (.string n) true).run prog w=.ok (.tuple #[.agg #[s,.bool c.bD,.func f #[] cs],.bool true]) w/\d_ S c.sp s w/\jd S c.d (.func f #[] cs) w) \/
  (tab n=none/\(Instr.lookup 150 (.map (some M)) (.string n) true).run prog w=.ok (.tuple #[.agg #[.slice none 0 0,.bool false,.nilFunc],.bool false]) w):=by
 obtain⟨⟨es,cl,hb,he⟩,hh⟩:=h;have hks:∀x∈es.toList,IsKey .string x.key:=fun x hx=>by obtain⟨y,h1,_⟩:=he x hx;rw[h1];trivial
 have hk:IsKey .string (.string n):=trivial;rcases findNow_spec hk es.toList 0 hks with ⟨h1,h2⟩ | ⟨j,e0,h1,h2,h3⟩
 .refine .inr ⟨?_,?_⟩
  .unfold tab
   rw[Option.map_eq_none_iff,List.find?_eq_none];intro x hx anb;obtain⟨yN,yO,g1,e,g2,g3⟩:=hh x hx;rw[hb]at g1;cases g1;exact h2 e g2 (by rw[g3,of_decide_eq_true anb])
  .simp[Instr.lookup,run_underlying underlying150,MapKept.run_getObj_map hb,run_checkKey underlying9 hk,run_findKey underlying9 h1,go_sem]
 .obtain⟨k,e1,c,e2,s,f,e3,e4,e5⟩:=he e0 (List.mem_of_getElem? h2)
  have hkn:k=n:=by rw[h3]at e1;cases e1;rfl
  subst hkn;obtain⟨f2,cs,rfl⟩:=e5.form;refine .inl ⟨c,s,f2,cs,e2,?_,e4,e5⟩;rw[Nat.zero_add]at h1;simp[Instr.lookup,run_underlying underlying150,MapKept.run_getObj_map hb,run_checkKey underlying9 hk,run_findKey underlying9 h1,e3]
structure dO (w W:World) (sp M p lo hi:Nat) (B:bO) (X:bQ) (P:Pl.St):Prop where
 blk:W.heap[sp]?=some (.cells #[Rw p,.map (some M)] 153 (0,0))
 cu:eF w W p B X 10 2 0 P
 AU:yK (fun b=>lo<=b/\b<hi) M W
 m:lo<=M/\M<hi
 ap:∀k,lo<=k->k<hi->k≠p/\¬ dV B X k
 le:hi<=W.heap.size
 ge:hi<=sp
 low:w.heap.size<=sp
section
variable {w W W':World} {ad:Nat->Addr} {sp M p lo hi:Nat} {B:bO} {X X':bQ} {P P':Pl.St}
theorem dO.later(H:dO w W sp M p lo hi B X P)(hb:U W W'):dO w W' sp M p lo hi B X P :=
 ⟨bF hb H.blk,H.cu.later hb,H.AU.keep H.m (fun b hs hl=>⟨hs,hb.block b hl⟩),H.m,H.ap,lTq H.le hb.size,H.ge,H.low⟩
theorem dO.act(H:dO w W sp M p lo hi B X P)(h2:eF w W' p B X' 10 2 0 P')(hs:eX W W' p B X X'):dO w W' sp M p lo hi B X' P':=by
 refine⟨hs.block H.blk (fun e=>aN H.blk H.cu.blk (by decide) e) (mR H.cu.aV H.blk (by decide)),h2,H.AU.keep H.m (fun b hb hl=>⟨hb,hs.turned.block b hl (fun e=>e.elim (H.ap b hb.1 hb.2).1 (H.ap b hb.1 hb.2).2)⟩),H.m,fun k h3 h4=>⟨(H.ap k h3 h4).1,fun h5=>?_⟩,lTq H.le hs.turned.size,H.ge,H.low⟩;rcases hs.new k h5 with h6 | h6
 .exact(H.ap k h3 h4).2 h6
 .have:=H.le;omega
theorem dO.cell(H:dO w W sp M p lo hi B X P):W.cell? (O sp 0)=some (Rw p)/\W.cell? (O sp 1)=some (.map (some M)) :=
 ⟨by rw[cR _ _ 0 _ _ _ H.blk];rfl,by rw[cR _ _ 1 _ _ _ H.blk];rfl⟩
def fM(w W w':World)(sp M p lo hi:Nat)(B:bO)(X:bQ)(P':Pl.St):Prop:=∃p' B' X',dO w w' sp M p' lo hi B' X' P'/\aL W w' (fun k=>k=sp\/k=p\/dV B X k)
theorem fM.of(H:dO w W sp M p lo hi B X P)(h2:eF w W' p B X' 10 2 0 P')(hs:eX W W' p B X X'):fM w W W' sp M p lo hi B X P':=⟨p,B,X',H.act h2 hs,hs.turned.mono (fun _ h=>.inr h)⟩
theorem fM.later{w2:World}(h:fM w W W' sp M p lo hi B X P')(hb:U W' w2):fM w W w2 sp M p lo hi B X P':=by obtain⟨p',B',X',h1,h2⟩:=h;exact⟨p',B',X',h1.later hb,h2.trans (aL.of_below hb (fun _=>False)) (fun _ h=>h.elim)⟩
theorem fM.same(H:dO w W sp M p lo hi B X P)(hb:U W W'):fM w W W' sp M p lo hi B X P:=⟨p,B,X,H.later hb,aL.of_below hb _⟩
end
end bg
end
section
open Go.RowKit
namespace bg
def need(k:Nat):Nat:=if k=99 then 3 else if k<2 then 5 else 1
def hZ(k:Nat)(l:List Int):Ask:=if k=99 then ⟨99,l.getD 0 0,0,l.getD 1 0,0,0,0,l.getD 2 0⟩ else if k<2 then ⟨111,l.getD 0 0,0,l.getD 1 0,k,l.getD 3 0,l.getD 4 0,l.getD 2 0⟩ else ⟨k,l.getD 0 0,0,0,0,0,0,0⟩
theorem anE{S:Nat->Prop}(k:Nat)(u:Value)(g m c:Nat)(l:List Int)(W:World)(hu:j0 S k u W)(hm:l.length=m)(hn:need k<=m):
  ∃f cs,u=.func (.func f) #[] cs/\(∀args w,(callFunc f args).run prog w=.ok (.enter f args) w)/\∀W',U W W'->(∀i x,l[i]?=some x->W'.cell? (O g i)=some (Z x))->Calls prog f (#[.slice (some (O g 0)) m c]++cs) W' fun e w'=>e=.returned (bM (hZ k l))/\U W' w':=by
 have at_:∀{W':World},(∀i x,l[i]?=some x->W'.cell? (O g i)=some (Z x))->∀i,i<m->W'.cell? (O g i)=some (Z (l.getD i 0)):=fun h i hi=>h i _ (by rw[gE,List.getElem?_eq_getElem (by omega)];rfl);unfold need at hn;unfold hZ;rcases hu with ⟨h1,b,_,rfl,h3⟩ | ⟨h1,rfl⟩ | ⟨h1,b,_,rfl,h3⟩
 .rw[if_neg (by omega),if_pos h1]at hn
  refine⟨_,_,rfl,enters_of func179 (by kernel_rfl) rfl,fun W' hb hc=>?_⟩;rw[if_neg (by omega),if_pos h1];exact alB b g m c k _ _ _ _ _ W' (by rw[cR _ _ 0 _ _ _ (bF hb h3)];rfl) hn (at_ hc 0 (by omega)) (at_ hc 1 (by omega)) (at_ hc 2 (by omega)) (at_ hc 3 (by omega)) (at_ hc 4 (by omega))
 .rw[if_pos h1]at hn
  refine⟨_,_,rfl,enters_of func121 (by kernel_rfl) rfl,fun W' hb hc=>?_⟩;rw[if_pos h1];exact alC g m c _ _ _ W' hn (at_ hc 0 (by omega)) (at_ hc 1 (by omega)) (at_ hc 2 (by omega))
 .rw[if_neg (by omega),if_neg (by omega)]at hn
  refine⟨_,_,rfl,enters_of func178 (by kernel_rfl) rfl,fun W' hb hc=>?_⟩;rw[if_neg (by omega),if_neg (by omega)];exact alA k b g m c _ W' (by rw[cR _ _ 0 _ _ _ (bF hb h3)];rfl) hn (at_ hc 0 (by omega))
theorem ints_at{w:World}{base:Nat}{v:Value}{l:List Int}(h:w.ownsRow base 3 1 v l.length (dF l))(h0:0<l.length):∃g c,v=.slice (some (O g 0)) l.length c/\(∃cur,w.heap[g]?=some (.cells cur 3 (0,0)))/\∀i x,l[i]?=some x->w.cell? (O g i)=some (Z x):=by
 rcases h.2 with ⟨_,e0⟩ | ⟨g,c,cur,e,_,hg,_⟩
 .omega
 .refine⟨g,c,e,⟨cur,hg⟩,fun i x hx=>?_⟩
  rw[e]at h;obtain⟨g2,e2,h2⟩:=WI h hx;cases e2;exact h2
section
variable {w W:World} {ad:Nat->Addr} {sp M p lo hi:Nat} {B:bO} {X:bQ} {P:Pl.St}
theorem amn(k cb:Nat)(u v:Value)(l:List Int)(t:ByteArray)(base:Nat)(W:World)(H:Hid (dO w W sp M p lo hi B X P))(hs:Hid (bJ w ad))(hbt:Hid (iF w))(hcb:Hid (W.heap[cb]?=some (.cells #[u] 220 (0,0))))(IU:lo<=cb/\cb<hi){S:Nat->Prop}(hu:Hid (j0 S k u W))(hrow:Hid (W.ownsRow base 3 1 v l.length (dF l)))(hn:need k<=l.length)(c:Nat)(hc:c<6)(hac:(hZ k l).c=c)(hb:P.ak c<=1000000)(h0:0<=P.ak c)(mQ:Hid (∀c,c<6->(P.v.aF c).size<30))(qX:Hid (∀r∈Pl.kS P c (hZ k l),kZ r))(Ih:(Pl.kS P c (hZ k l)).length<=1000000):
  Calls prog 175 #[Rw sp,.agg #[v,.string t],Rw cb] W fun e w'=>e=.returned (.tuple #[.string (iH ((Pl.kS P c (hZ k l)).map fE)),.nilIface])/\fM w W w' sp M p lo hi B X (Pl.g_ P c (hZ k l)):=by
 have hl0:0<l.length:=by unfold need at hn;split at hn <;> (try split at hn) <;> omega
 obtain⟨g,vc,rfl,_,hcl⟩:=ints_at hrow.out hl0;obtain⟨f,cs,rfl,hent,PO⟩:=anE k u g l.length vc l W hu rfl hn;obtain⟨m,hm⟩:=aG l.length;rw[hm]at PO ⊢;have hb1:U W (W.alloc (.cells #[.slice (some (O g 0)) m vc,.string t] 280)):=aj;obtain⟨W1,hW1⟩:=aG (W.alloc (.cells #[.slice (some (O g 0)) m vc,.string t] 280));have hx1:W1.heap[W.heap.size]?=some (.cells #[.slice (some (O g 0)) m vc,.string t] 280 (0,0)):=by rw[<- hW1];exact hNq _ _
 rw[hW1]at hb1;have hbd:U W W1.drew:=ar hb1 cw;have G1:=Y (PO W1.drew hbd (fun i x hx=>cell_later hbd (hcl i x hx)));have H1:=Y (H.later hbd);have HW1:=Y hW1;have bH:=Y hbd;have bW:Hid (W1.drew.heap[W.heap.size]?=some (.cells #[.slice (some (O g 0)) m vc,.string t] 280 (0,0))):=Y hx1;have cy:Hid (W1.drew.heap[cb]?=some (.cells #[.func (.func f) #[] cs] 220 (0,0))):=Y (bF hbd hcb);clear PO hb1 hW1 hx1 hbd hm hcl hu hcb hrow;have ZP:=Y (fun W' (h':eF w W' p B X 10 2 0 P)=>aje c hc (hZ k l) hac W' (Y h') hs hb h0 mQ);clear hac;generalize Pl.kS P c (hZ k l)=R at *;generalize Pl.g_ P c (hZ k l)=yH at *;generalize hZ k l=a at *;unfold bM aX at G1 ZP;go_enter func175,ntmps175;go_wp2;rw[HW1.out];obtain⟨bl,val,hcl,ay⟩:=gu (fun W'=>W'.heap[W.heap.size]?=some (.cells #[.slice (some (O g 0)) m vc,.string t] 280 (0,0))/\W'.heap[cb]?=some (.cells #[.func (.func f) #[] cs] 220 (0,0))/\W'.heap[sp]?=some (.cells #[Rw p,.map (some M)] 153 (0,0)));obtain⟨x0,hx0⟩:=ay W1.drew ⟨bW,cy,H1.blk⟩;have hnx:Nonempty bl:=⟨x0⟩;have s0:=fun x0=>ag (hcl x0).1 0 rfl;have s1:=fun x0=>ag (hcl x0).2.1 0 rfl;have s2:=fun x0=>ag (hcl x0).2.2 0 rfl;have aH:=Y ay;clear ay hcl;refine kt (val:=val) [7,8,9] [0,1,2,3,4,5,6,7,8,9,10,11] (by kernel_rfl) (by kernel_rfl) x0 hx0 ?_;rw[hx0];clear hx0
 iterate 7 (refine d7 rfl rfl (fun K hK=>?_);refine⟨by rfl,?_⟩;unfold aQ;go_simp;refine hK _ ?_;clear hK K)
 refine cY rfl rfl (fun K hK=>?_);refine⟨by rfl,?_⟩;unfold aB;go_simp;refine G1.mono ?_;rintro e w2 ⟨rfl,hb2⟩;have H2:=Y (H1.later hb2);have tH:=Y (bF hb2 bW);have zW:=Y (bF hb2 cy);have HB2:=Y (ar bH hb2);refine⟨_,rfl,aH _ ⟨tH,zW,H2.blk⟩,hK _ _ ?_⟩;clear hK K hb2;refine cY rfl rfl (fun K hK=>?_);refine⟨by rfl,?_⟩;unfold aB;go_simp;refine(ZP _ H2.cu).mono ?_;rintro e w3 ⟨v3,yl,rfl,h3,hs3,hr3⟩;have H3:=Y (H2.act h3 hs3);have hbl:=h3.aV.bG;have gC:=Y (hs3.block tH (fun e=>aN tH H2.cu.blk (by decide) e) (mR H2.cu.aV tH (by decide)));have rX:=Y (hs3.block zW (H2.ap cb IU.1 IU.2).1 (H2.ap cb IU.1 IU.2).2);have iX:=Y (O_ v3 R _ w3 (Y hr3) (Y (hbt.later hbl)) qX Ih);have HST:=Y (((eX.refl W p B X).below HB2).trans hs3);refine⟨_,rfl,aH _ ⟨gC,rX,H3.blk⟩,hK _ _ ?_⟩;clear hK K hs3 hr3 hbl;have iC:=Y h3;clear h3;refine cY rfl rfl (fun K hK=>?_);refine⟨by rfl,?_⟩;unfold aB;go_simp;refine iX.mono ?_;rintro e w4 ⟨rfl,hb4⟩;have d8:=Y (H3.later hb4);have oK:=Y (fM.of H (iC.later hb4) (HST.below hb4));refine⟨_,rfl,aH _ ⟨bF hb4 gC,bF hb4 rX,d8.blk⟩,hK _ _ ?_⟩;clear hK K hb4
 iterate 2 (refine d7 rfl rfl (fun K hK=>?_);refine⟨by rfl,?_⟩;unfold aQ;go_simp;refine hK _ ?_;clear hK K)
 refine jX ?_;go_wp2;go_ret2;exact⟨rfl,oK⟩
end
end bg
namespace bg
section
variable {w W:World} {ad:Nat->Addr} {sp M p lo hi:Nat} {B:bO} {X:bQ} {P:Pl.St}
theorem dO.fl(H:dO w W sp M p lo hi B X P):bB w W B.F B.P B.I B.b X.v P.v.L P.v.pf P.v.n 10 2:=H.cu.aV.fl
theorem al4(v:Value)(l:List Int)(x0:Int)(hx:l[0]?=some x0)(t:ByteArray)(base:Nat)(W:World)(H:Hid (dO w W sp M p lo hi B X P))(hrow:Hid (W.ownsRow base 3 1 v l.length (dF l)))(hl0:0<l.length)(hbt:Hid (iF w))(hall:Hid (dc P.v.L P.v.pf P.v.n 10 2))(i:Nat)(bU:i<3)(oY:x0=i):
  Calls prog 125 #[Rw sp,.agg #[v,.string t]] W fun e w'=>e=.returned (.tuple #[.string (jZ 32 [P.v.n (i*2),P.v.n (i*2+1)]),.nilIface])/\fM w W w' sp M p lo hi B X P:=by
 obtain⟨g,vc,rfl,⟨cur,hcur⟩,hcl⟩:=ints_at hrow.out hl0;obtain⟨m,hm⟩:=aG l.length;have lZ:0<m:=by omega
 have hc0:cur[0]?=some (Z x0):=by have:=hcl 0 x0 hx;rw[cR _ _ 0 _ _ _ hcur]at this;exact this
 rw[hm];have hb1:U W (W.alloc (.cells #[.slice (some (O g 0)) m vc,.string t] 280)):=aj;obtain⟨W1,hW1⟩:=aG (W.alloc (.cells #[.slice (some (O g 0)) m vc,.string t] 280));have hx1:W1.heap[W.heap.size]?=some (.cells #[.slice (some (O g 0)) m vc,.string t] 280 (0,0)):=by rw[<- hW1];exact hNq _ _
 rw[hW1]at hb1;have hbd:U W W1.drew:=ar hb1 cw;have H1:=Y (H.later hbd);have HW1:=Y hW1;have bH:=Y hbd;have bW:Hid (W1.drew.heap[W.heap.size]?=some (.cells #[.slice (some (O g 0)) m vc,.string t] 280 (0,0))):=Y hx1;have cy:=Y (bF hbd hcur);have mq:=Y hc0;clear hb1 hW1 hx1 hbd hm hcl hrow hc0 hcur;have lG:=Y (tW W1.drew (Y H1.cu.blk));have xT:=Y (O6 W1.drew H1.cu.aV.f);have O7:=Y (ahy i bU (Y H1.fl));have ow:=Y (ai7 (hall.nG i bU));have DX:=Y (fun W' (h':U W W')=>ajo (P.v.n (i*2)) (P.v.n (i*2+1)) W' (Y (hbt.later (H.later h').cu.aV.bG)) ow);unfold eo at O7;rw[<- oY]at O7;clear oY hx;generalize jZ 32 [P.v.n (i*2),P.v.n (i*2+1)]=O0 at *;generalize P.v.n (i*2)=nr at *;generalize P.v.n (i*2+1)=nl at *;go_enter func125,ntmps125;go_wp2;rw[HW1.out];obtain⟨bl,val,hcl,ay⟩:=gu (fun W'=>W'.heap[W.heap.size]?=some (.cells #[.slice (some (O g 0)) m vc,.string t] 280 (0,0))/\W'.heap[sp]?=some (.cells #[Rw p,.map (some M)] 153 (0,0))/\W'.heap[g]?=some (.cells cur 3 (0,0)));obtain⟨y0,dx⟩:=ay W1.drew ⟨bW,H1.blk,cy⟩;have hnx:Nonempty bl:=⟨y0⟩;have s0:=fun y0=>ag (hcl y0).1 0 rfl;have s1:=fun y0=>ag (hcl y0).1 1 rfl;have s2:=fun y0=>ag (hcl y0).2.1 0 rfl;have s3:∀y0,(val y0).cell? (O g 0)=some (Z x0):=fun y0=>by rw[cR _ _ _ _ _ _ (hcl y0).2.2];exact mq
 have aH:=Y ay;clear ay hcl;refine kt (val:=val) [4,5,10,11] [0,1,2,3,6,7,8,9,4,5,10,11,12,13] (by kernel_rfl) (by kernel_rfl) y0 dx ?_;rw[dx];clear dx
 iterate 8 (refine d7 rfl rfl (fun K hK=>?_);refine⟨by rfl,?_⟩;unfold aQ;go_simp;refine hK _ ?_;clear hK K)
 refine cY rfl rfl (fun K hK=>?_);refine⟨by rfl,?_⟩;unfold aB;go_simp;refine(lG).mono ?_;rintro e aD ⟨rfl,hwz⟩;subst aD;refine⟨_,rfl,aH _ ⟨bW,H1.blk,cy⟩,hK _ _ ?_⟩;clear hK K;refine cY rfl rfl (fun K hK=>?_);refine⟨by rfl,?_⟩;unfold aB;go_simp;refine(xT).mono ?_;rintro e aD ⟨rfl,hwz⟩;subst aD;refine⟨_,rfl,aH _ ⟨bW,H1.blk,cy⟩,hK _ _ ?_⟩;clear hK K;refine cY rfl rfl (fun K hK=>?_);refine⟨by rfl,?_⟩;unfold aB;go_simp;refine(O7).mono ?_;rintro e w2 ⟨rfl,hb2⟩;have nR:=Y (H1.later hb2);have nS:=Y (bF hb2 bW);have nT:=Y (bF hb2 cy);have D_:=Y (ar bH hb2);refine⟨_,rfl,aH _ ⟨nS,nR.blk,nT⟩,hK _ _ ?_⟩;clear hK K hb2;obtain⟨H1,bW,cy,bH⟩:Hid _/\Hid _/\Hid _/\Hid _:=⟨nR,nS,nT,D_⟩;refine cY rfl rfl (fun K hK=>?_);refine⟨by rfl,?_⟩;unfold aB;go_simp;refine(DX _ bH).mono ?_;rintro e w3 ⟨rfl,hb2⟩;have wJ:=Y (H1.later hb2);have wK:=Y (bF hb2 bW);have wL:=Y (bF hb2 cy);have D':=Y (ar bH hb2);refine⟨_,rfl,aH _ ⟨wK,wJ.blk,wL⟩,hK _ _ ?_⟩;clear hK K hb2;obtain⟨H1,bW,cy,bH⟩:Hid _/\Hid _/\Hid _/\Hid _:=⟨wJ,wK,wL,D'⟩
 iterate 2 (refine d7 rfl rfl (fun K hK=>?_);refine⟨by rfl,?_⟩;unfold aQ;go_simp;refine hK _ ?_;clear hK K)
 refine jX ?_;go_wp2;go_ret2;exact⟨rfl,fM.same H bH⟩
theorem al5(v:Value)(l:List Int)(x0:Int)(hx:l[0]?=some x0)(t:ByteArray)(base:Nat)(W:World)(H:Hid (dO w W sp M p lo hi B X P))(hrow:Hid (W.ownsRow base 3 1 v l.length (dF l)))(hl0:0<l.length)(hbt:Hid (iF w))(hall:Hid (dc P.v.L P.v.pf P.v.n 10 2))(i:Nat)(bU:i<6)(oY:x0=i):
  Calls prog 126 #[Rw sp,.agg #[v,.string t]] W fun e w'=>e=.returned (.tuple #[.string (jZ 32 (jc (fun j=>P.v.pf (i*8+j)) 3)),.nilIface])/\fM w W w' sp M p lo hi B X P:=by
 obtain⟨g,vc,rfl,⟨cur,hcur⟩,hcl⟩:=ints_at hrow.out hl0;obtain⟨m,hm⟩:=aG l.length;have lZ:0<m:=by omega
 have hc0:cur[0]?=some (Z x0):=by have:=hcl 0 x0 hx;rw[cR _ _ 0 _ _ _ hcur]at this;exact this
 rw[hm];have hb1:U W (W.alloc (.cells #[.slice (some (O g 0)) m vc,.string t] 280)):=aj;obtain⟨W1,hW1⟩:=aG (W.alloc (.cells #[.slice (some (O g 0)) m vc,.string t] 280));have hx1:W1.heap[W.heap.size]?=some (.cells #[.slice (some (O g 0)) m vc,.string t] 280 (0,0)):=by rw[<- hW1];exact hNq _ _
 rw[hW1]at hb1;have hbd:U W W1.drew:=ar hb1 cw;have H1:=Y (H.later hbd);have HW1:=Y hW1;have bH:=Y hbd;have bW:Hid (W1.drew.heap[W.heap.size]?=some (.cells #[.slice (some (O g 0)) m vc,.string t] 280 (0,0))):=Y hx1;have cy:=Y (bF hbd hcur);have mq:=Y hc0;clear hb1 hW1 hx1 hbd hm hcl hrow hc0 hcur;have lG:=Y (tW W1.drew (Y H1.cu.blk));have xT:=Y (O6 W1.drew H1.cu.aV.f);have NR:=Y (ahv (Y H1.fl));have O8:=Y (ajN B.P (i:Int) P.v.pf W1.drew (Y H1.fl.dJ));rw[Xx P.v.pf bU,<- oY]at O8;clear oY hx;unfold si at O8;have DX:Hid (∀W',U W W'->Calls prog 68 #[.agg #[Z (P.v.pf (i*8)),Z (P.v.pf (i*8+1)),Z (P.v.pf (i*8+2)),Z (P.v.pf (i*8+3)),Z (P.v.pf (i*8+4)),Z (P.v.pf (i*8+5)),Z (P.v.pf (i*8+6)),Z (P.v.pf (i*8+7))]] W' fun e w'=>e=.returned (.string (jZ 32 (jc (fun j=>P.v.pf (i*8+j)) 3)))/\U W' w'):=Y (fun W' h'=>ajr (fun j=>P.v.pf (i*8+j)) W' (Y (hbt.later (H.later h').cu.aV.bG)) (Y (ajn hall.ok.good bU)));generalize jZ 32 (jc (fun j=>P.v.pf (i*8+j)) 3)=O0 at *;go_enter func126,ntmps126;go_wp2;rw[HW1.out];obtain⟨bl,val,hcl,ay⟩:=gu (fun W'=>W'.heap[W.heap.size]?=some (.cells #[.slice (some (O g 0)) m vc,.string t] 280 (0,0))/\W'.heap[sp]?=some (.cells #[Rw p,.map (some M)] 153 (0,0))/\W'.heap[g]?=some (.cells cur 3 (0,0)));obtain⟨y0,dx⟩:=ay W1.drew ⟨bW,H1.blk,cy⟩;have hnx:Nonempty bl:=⟨y0⟩;have s0:=fun y0=>ag (hcl y0).1 0 rfl;have s1:=fun y0=>ag (hcl y0).1 1 rfl;have s2:=fun y0=>ag (hcl y0).2.1 0 rfl;have s3:∀y0,(val y0).cell? (O g 0)=some (Z x0):=fun y0=>by rw[cR _ _ _ _ _ _ (hcl y0).2.2];exact mq
 have aH:=Y ay;clear ay hcl;refine kt (val:=val) [4,5,6,11,12] [0,1,2,3,7,8,9,10,4,5,6,11,12,13,14] (by kernel_rfl) (by kernel_rfl) y0 dx ?_;rw[dx];clear dx
 iterate 8 (refine d7 rfl rfl (fun K hK=>?_);refine⟨by rfl,?_⟩;unfold aQ;go_simp;refine hK _ ?_;clear hK K)
 refine cY rfl rfl (fun K hK=>?_);refine⟨by rfl,?_⟩;unfold aB;go_simp;refine(lG).mono ?_;rintro e aD ⟨rfl,hwz⟩;subst aD;refine⟨_,rfl,aH _ ⟨bW,H1.blk,cy⟩,hK _ _ ?_⟩;clear hK K;refine cY rfl rfl (fun K hK=>?_);refine⟨by rfl,?_⟩;unfold aB;go_simp;refine(xT).mono ?_;rintro e aD ⟨rfl,hwz⟩;subst aD;refine⟨_,rfl,aH _ ⟨bW,H1.blk,cy⟩,hK _ _ ?_⟩;clear hK K;refine cY rfl rfl (fun K hK=>?_);refine⟨by rfl,?_⟩;unfold aB;go_simp;refine(NR).mono ?_;rintro e aD ⟨rfl,hwz⟩;subst aD;refine⟨_,rfl,aH _ ⟨bW,H1.blk,cy⟩,hK _ _ ?_⟩;clear hK K;refine cY rfl rfl (fun K hK=>?_);refine⟨by rfl,?_⟩;unfold aB;go_simp;refine(O8).mono ?_;rintro e w2 ⟨rfl,hb2⟩;have nR:=Y (H1.later hb2);have nS:=Y (bF hb2 bW);have nT:=Y (bF hb2 cy);have D_:=Y (ar bH hb2);refine⟨_,rfl,aH _ ⟨nS,nR.blk,nT⟩,hK _ _ ?_⟩;clear hK K hb2;obtain⟨H1,bW,cy,bH⟩:Hid _/\Hid _/\Hid _/\Hid _:=⟨nR,nS,nT,D_⟩;refine cY rfl rfl (fun K hK=>?_);refine⟨by rfl,?_⟩;unfold aB;go_simp;refine(DX _ bH).mono ?_;rintro e w3 ⟨rfl,hb2⟩;have wJ:=Y (H1.later hb2);have wK:=Y (bF hb2 bW);have wL:=Y (bF hb2 cy);have D':=Y (ar bH hb2);refine⟨_,rfl,aH _ ⟨wK,wJ.blk,wL⟩,hK _ _ ?_⟩;clear hK K hb2;obtain⟨H1,bW,cy,bH⟩:Hid _/\Hid _/\Hid _/\Hid _:=⟨wJ,wK,wL,D'⟩
 iterate 2 (refine d7 rfl rfl (fun K hK=>?_);refine⟨by rfl,?_⟩;unfold aQ;go_simp;refine hK _ ?_;clear hK K)
 refine jX ?_;go_wp2;go_ret2;exact⟨rfl,fM.same H bH⟩
theorem al6(v:Value)(l:List Int)(x0:Int)(hx:l[0]?=some x0)(t:ByteArray)(base:Nat)(W:World)(H:Hid (dO w W sp M p lo hi B X P))(hrow:Hid (W.ownsRow base 3 1 v l.length (dF l)))(hl0:0<l.length)(hbt:Hid (iF w))(hall:Hid (dc P.v.L P.v.pf P.v.n 10 2))(i:Nat)(bU:i<3)(oY:x0=i):
  Calls prog 124 #[Rw sp,.agg #[v,.string t]] W fun e w'=>e=.returned (.tuple #[.string (iH ((P.v.L i).map ku)),.nilIface])/\fM w W w' sp M p lo hi B X P:=by
 obtain⟨g,vc,rfl,⟨cur,hcur⟩,hcl⟩:=ints_at hrow.out hl0;obtain⟨m,hm⟩:=aG l.length;have lZ:0<m:=by omega
 have hc0:cur[0]?=some (Z x0):=by have:=hcl 0 x0 hx;rw[cR _ _ 0 _ _ _ hcur]at this;exact this
 rw[hm];have hb1:U W (W.alloc (.cells #[.slice (some (O g 0)) m vc,.string t] 280)):=aj;obtain⟨W1,hW1⟩:=aG (W.alloc (.cells #[.slice (some (O g 0)) m vc,.string t] 280));have hx1:W1.heap[W.heap.size]?=some (.cells #[.slice (some (O g 0)) m vc,.string t] 280 (0,0)):=by rw[<- hW1];exact hNq _ _
 rw[hW1]at hb1;have hbd:U W W1.drew:=ar hb1 cw;have H1:=Y (H.later hbd);have HW1:=Y hW1;have bH:=Y hbd;have bW:Hid (W1.drew.heap[W.heap.size]?=some (.cells #[.slice (some (O g 0)) m vc,.string t] 280 (0,0))):=Y hx1;have cy:=Y (bF hbd hcur);have mq:=Y hc0;clear hb1 hW1 hx1 hbd hm hcl hrow hc0 hcur;have hG:=hall.ok.aO i bU;have lG:=Y (tW W1.drew (Y H1.cu.blk));have xT:=Y (O6 W1.drew H1.cu.aV.f);have wM:=Y (Vq i bU (Y H1.fl));have lL:=Y (BI (B.b i) w.heap.size (X.v i) (P.v.L i) W1.drew (Y (H1.fl.aO i bU)) (Y hG.len));have iX:=Y (fun W' (h':U W W') (v2:Value) (b2:Nat) (h2:W'.ownsRow b2 197 5 v2 (P.v.L i).length (flat (P.v.L i)))=>al7 v2 (P.v.L i) b2 W' (Y h2) (Y (hbt.later (H.later h').cu.aV.bG)) (Y (fun x hx=>hG.oks x hx)) (lTq hG.len (by decide)));rw[<- oY]at wM;clear hG oY hx;go_enter func124,ntmps124;go_wp2;rw[HW1.out];obtain⟨bl,val,hcl,ay⟩:=gu (fun W'=>W'.heap[W.heap.size]?=some (.cells #[.slice (some (O g 0)) m vc,.string t] 280 (0,0))/\W'.heap[sp]?=some (.cells #[Rw p,.map (some M)] 153 (0,0))/\W'.heap[g]?=some (.cells cur 3 (0,0)));obtain⟨y0,dx⟩:=ay W1.drew ⟨bW,H1.blk,cy⟩;have hnx:Nonempty bl:=⟨y0⟩;have s0:=fun y0=>ag (hcl y0).1 0 rfl;have s1:=fun y0=>ag (hcl y0).1 1 rfl;have s2:=fun y0=>ag (hcl y0).2.1 0 rfl;have s3:∀y0,(val y0).cell? (O g 0)=some (Z x0):=fun y0=>by rw[cR _ _ _ _ _ _ (hcl y0).2.2];exact mq
 have aH:=Y ay;clear ay hcl;refine kt (val:=val) [4,5,10,11,12] [0,1,2,3,6,7,8,9,4,5,10,11,12,13,14] (by kernel_rfl) (by kernel_rfl) y0 dx ?_;rw[dx];clear dx
 iterate 8 (refine d7 rfl rfl (fun K hK=>?_);refine⟨by rfl,?_⟩;unfold aQ;go_simp;refine hK _ ?_;clear hK K)
 refine cY rfl rfl (fun K hK=>?_);refine⟨by rfl,?_⟩;unfold aB;go_simp;refine(lG).mono ?_;rintro e aD ⟨rfl,hwz⟩;subst aD;refine⟨_,rfl,aH _ ⟨bW,H1.blk,cy⟩,hK _ _ ?_⟩;clear hK K;refine cY rfl rfl (fun K hK=>?_);refine⟨by rfl,?_⟩;unfold aB;go_simp;refine(xT).mono ?_;rintro e aD ⟨rfl,hwz⟩;subst aD;refine⟨_,rfl,aH _ ⟨bW,H1.blk,cy⟩,hK _ _ ?_⟩;clear hK K;refine cY rfl rfl (fun K hK=>?_);refine⟨by rfl,?_⟩;unfold aB;go_simp;refine(wM).mono ?_;rintro e aD ⟨rfl,hwz⟩;subst aD;refine⟨_,rfl,aH _ ⟨bW,H1.blk,cy⟩,hK _ _ ?_⟩;clear hK K;refine cY rfl rfl (fun K hK=>?_);refine⟨by rfl,?_⟩;unfold aB;go_simp;refine(lL).mono ?_;rintro e w2 ⟨v2,rfl,hr2,hb2⟩;have b_:=Y hr2;clear hr2;have nR:=Y (H1.later hb2);have nS:=Y (bF hb2 bW);have nT:=Y (bF hb2 cy);have D_:=Y (ar bH hb2);refine⟨_,rfl,aH _ ⟨nS,nR.blk,nT⟩,hK _ _ ?_⟩;clear hK K hb2;obtain⟨H1,bW,cy,bH⟩:Hid _/\Hid _/\Hid _/\Hid _:=⟨nR,nS,nT,D_⟩;refine cY rfl rfl (fun K hK=>?_);refine⟨by rfl,?_⟩;unfold aB;go_simp;refine(iX _ bH _ _ b_).mono ?_;rintro e w3 ⟨rfl,hb2⟩;have wJ:=Y (H1.later hb2);have wK:=Y (bF hb2 bW);have wL:=Y (bF hb2 cy);have D':=Y (ar bH hb2);refine⟨_,rfl,aH _ ⟨wK,wJ.blk,wL⟩,hK _ _ ?_⟩;clear hK K hb2;obtain⟨H1,bW,cy,bH⟩:Hid _/\Hid _/\Hid _/\Hid _:=⟨wJ,wK,wL,D'⟩
 iterate 2 (refine d7 rfl rfl (fun K hK=>?_);refine⟨by rfl,?_⟩;unfold aQ;go_simp;refine hK _ ?_;clear hK K)
 refine jX ?_;go_wp2;go_ret2;exact⟨rfl,fM.same H bH⟩
theorem al8(v:Value)(l:List Int)(x0:Int)(hx:l[0]?=some x0)(t:ByteArray)(base:Nat)(W:World)(H:Hid (dO w W sp M p lo hi B X P))(hrow:Hid (W.ownsRow base 3 1 v l.length (dF l)))(hl0:0<l.length)(hs:Hid (bJ w ad))(hbt:Hid (iF w))(hsz:Hid (∀c,c<6->(P.v.aF c++t).size<=100000))(qX:Hid (∀r∈Ve.eW P.v x0 t,kZ r))(Ih:(Ve.eW P.v x0 t).length<=1000000):
  Calls prog 123 #[Rw sp,.agg #[v,.string t]] W fun e w'=>e=.returned (.tuple #[.string (iH ((Ve.eW P.v x0 t).map fE)),.nilIface])/\fM w W w' sp M p lo hi B X { P with v:=Ve.di P.v x0 t }:=by
 obtain⟨g,vc,rfl,⟨cur,hcur⟩,hcl⟩:=ints_at hrow.out hl0;obtain⟨m,hm⟩:=aG l.length;have lZ:0<m:=by omega
 have hc0:cur[0]?=some (Z x0):=by have:=hcl 0 x0 hx;rw[cR _ _ 0 _ _ _ hcur]at this;exact this
 rw[hm];have hb1:U W (W.alloc (.cells #[.slice (some (O g 0)) m vc,.string t] 280)):=aj;obtain⟨W1,hW1⟩:=aG (W.alloc (.cells #[.slice (some (O g 0)) m vc,.string t] 280));have hx1:W1.heap[W.heap.size]?=some (.cells #[.slice (some (O g 0)) m vc,.string t] 280 (0,0)):=by rw[<- hW1];exact hNq _ _
 rw[hW1]at hb1;have hbd:U W W1.drew:=ar hb1 cw;have H1:=Y (H.later hbd);have HW1:=Y hW1;have bH:=Y hbd;have bW:Hid (W1.drew.heap[W.heap.size]?=some (.cells #[.slice (some (O g 0)) m vc,.string t] 280 (0,0))):=Y hx1;have cy:=Y (bF hbd hcur);have mq:=Y hc0;clear hb1 hW1 hx1 hbd hm hcl hrow hc0 hcur;have lG:=Y (tW W1.drew (Y H1.cu.blk));have oG:=Y (WY x0 t W1.drew H1.cu.aV hs hsz);generalize Ve.eW P.v x0 t=R at *;generalize Ve.di P.v x0 t=S2 at *;clear hx;go_enter func123,ntmps123;go_wp2;rw[HW1.out];obtain⟨bl,val,hcl,ay⟩:=gu (fun W'=>W'.heap[W.heap.size]?=some (.cells #[.slice (some (O g 0)) m vc,.string t] 280 (0,0))/\W'.heap[sp]?=some (.cells #[Rw p,.map (some M)] 153 (0,0))/\W'.heap[g]?=some (.cells cur 3 (0,0)));obtain⟨y0,dx⟩:=ay W1.drew ⟨bW,H1.blk,cy⟩;have hnx:Nonempty bl:=⟨y0⟩;have s0:=fun y0=>ag (hcl y0).1 0 rfl;have s1:=fun y0=>ag (hcl y0).1 1 rfl;have s2:=fun y0=>ag (hcl y0).2.1 0 rfl;have s3:∀y0,(val y0).cell? (O g 0)=some (Z x0):=fun y0=>by rw[cR _ _ _ _ _ _ (hcl y0).2.2];exact mq
 have aH:=Y ay;clear ay hcl;refine kt (val:=val) [4,11,12] [0,1,2,3,5,6,7,8,9,10,4,11,12,13,14] (by kernel_rfl) (by kernel_rfl) y0 dx ?_;rw[dx];clear dx
 iterate 10 (refine d7 rfl rfl (fun K hK=>?_);refine⟨by rfl,?_⟩;unfold aQ;go_simp;refine hK _ ?_;clear hK K)
 refine cY rfl rfl (fun K hK=>?_);refine⟨by rfl,?_⟩;unfold aB;go_simp;refine(lG).mono ?_;rintro e aD ⟨rfl,hwz⟩;subst aD;refine⟨_,rfl,aH _ ⟨bW,H1.blk,cy⟩,hK _ _ ?_⟩;clear hK K;refine cY rfl rfl (fun K hK=>?_);refine⟨by rfl,?_⟩;unfold aB;go_simp;refine(oG).mono ?_;rintro e w2 ⟨v2,X2,rfl,hr2,h2,hs2⟩;have o7:=eX.of hs2 p;have hp2:=H1.cu.act h2 hs2;have nR:=Y (H1.act hp2 o7);have nS:=Y (o7.block bW (fun e=>aN bW H1.cu.blk (by decide) e) (mR H1.cu.aV bW (by decide)));have nT:=Y (o7.block cy (fun e=>aN cy H1.cu.blk (by decide) e) (mR H1.cu.aV cy (by decide)));have HST:=Y (((eX.refl W p B X).below bH).trans o7);have O9:=Y hp2;have iX:=Y (O_ v2 R _ w2 (Y hr2) (Y (hbt.later h2.bG)) qX Ih);clear hr2;refine⟨_,rfl,aH _ ⟨nS,nR.blk,nT⟩,hK _ _ ?_⟩;clear hK K h2 hs2 o7 hp2;obtain⟨H1,bW,cy⟩:Hid _/\Hid _/\Hid _:=⟨nR,nS,nT⟩;refine cY rfl rfl (fun K hK=>?_);refine⟨by rfl,?_⟩;unfold aB;go_simp;refine iX.mono ?_;rintro e w4 ⟨rfl,hb4⟩;have oK:=Y (fM.of H (O9.later hb4) (HST.below hb4));refine⟨_,rfl,aH _ ⟨bF hb4 bW,bF hb4 H1.blk,bF hb4 cy⟩,hK _ _ ?_⟩;clear hK K hb4
 iterate 2 (refine d7 rfl rfl (fun K hK=>?_);refine⟨by rfl,?_⟩;unfold aQ;go_simp;refine hK _ ?_;clear hK K)
 refine jX ?_;go_wp2;go_ret2;exact⟨rfl,oK⟩
theorem al9{wd h seed:Int}{S:Ve.St}(n:Int)(hn:0<=n)(W:World)(H:Hid (aM w W B X wd h seed S))(hs:Hid (bJ w ad))(hp:S.cut=true/\S.left=0):
  Calls prog 20 #[Rw B.d,Z n] W fun e w'=>e=.returned (.iface 412 (.pointer (some (ad 8))))/\w'=W:=by
 have gU:=Y (H.sent hs);have g1:W.cell? (O 2 0)=some (.iface 412 (.pointer (some (ad 8)))):=gU.cell 8 (by decide);have HP:=Y (Y9 B.d X.bZ S.cut S.left W H.dk.cell);have hn':¬ n<0:=by omega
 rw[show (!S.cut || decide (0<(S.left:Int)))=false by rw[hp.1,hp.2];decide]at HP;clear hp;go_enter func20,ntmps20
 go_wp2_with fail
 refine HP.mono ?_;rintro e w1 ⟨rfl,hw⟩;subst w1;simp only[];go_wp2;go_ret;exact⟨rfl,rfl⟩
theorem ama{wd h seed:Int}{S:Ve.St}(n:Int)(hn:¬ n<0)(W:World)(H:aM w W B X wd h seed S):
  aM w ((W.setCell (O B.d 1) (.bool true)).setCell (O B.d 2) (Z n)) B X wd h seed (Ve.wc S true n.toNat)/\br W ((W.setCell (O B.d 1) (.bool true)).setCell (O B.d 2) (Z n)) B X X:=by
 have ht:aL W ((W.setCell (O B.d 1) (.bool true)).setCell (O B.d 2) (Z n)) (fun k=>k=B.d):=(aL.setCell _ _ _ _).trans (aL.setCell _ _ _ _) (fun _ h=>.inl h);have amb:((n.toNat:Nat):Int)=n:=by omega
 have hd:eD ((W.setCell (O B.d 1) (.bool true)).setCell (O B.d 2) (Z n)) w.heap.size B.d X.bZ S.tp true (n.toNat:Nat):=by
  refine⟨?_,?_,H.dk.lo⟩
  .rw[block_setCell (block_setCell H.dk.cell 1 _) 2 _,amb];rfl
  .obtain⟨g,cap,cur,Ii,k1,k2,k3,k4⟩:=H.dk.row
   refine⟨g,cap,cur,Ii,k1,k2,?_,k4⟩;rw[ht.block g (lBq k3) (aN k3 H.dk.cell (by decide))];exact k3
 exact H.tape hd (ht.mono (fun _ h=>.inl h)) (fun k hk=>.inl hk)
theorem amc{wd h seed:Int}{S:Ve.St}(n:Int)(hn:0<=n)(W:World)(H:Hid (aM w W B X wd h seed S))(hp:¬ (S.cut=true/\S.left=0)):
  Calls prog 20 #[Rw B.d,Z n] W fun e w'=>e=.returned .nilIface/\aM w w' B X wd h seed (Ve.wc S true n.toNat)/\br W w' B X X:=by
 have HP:=Y (Y9 B.d X.bZ S.cut S.left W H.dk.cell);have hpw:(!S.cut || decide (0<(S.left:Int)))=true:=by
  cases hc:S.cut with
  | false=>rfl
  | true =>
   have:S.left≠0:=fun e=>hp ⟨hc,e⟩;simp;omega
 rw[hpw]at HP;have hn':¬ n<0:=by omega
 have c1:=ag H.dk.cell 1 rfl;have c2:=ag H.dk.cell 2 rfl;have fz:=aC H.dk.cell;have hlt:B.d<W.heap.size:=lBq H.dk.cell;have HF:=Y (ama n hn' W H);clear hpw hp;go_enter func20,ntmps20
 go_wp2_with fail
 refine HP.mono ?_;rintro e w1 ⟨rfl,hw⟩;subst w1;simp only[];go_wp2;go_ret;exact⟨rfl,HF.1,HF.2⟩
theorem amd(v:Value)(l:List Int)(x0:Int)(hx:l[0]?=some x0)(t:ByteArray)(base:Nat)(W:World)(H:Hid (dO w W sp M p lo hi B X P))(hrow:Hid (W.ownsRow base 3 1 v l.length (dF l)))(hl0:0<l.length)(hs:Hid (bJ w ad))(hn0:0<=x0)(hp:P.v.cut=true/\P.v.left=0):
  Calls prog 127 #[Rw sp,.agg #[v,.string t]] W fun e w'=>e=.returned (.tuple #[.string ⟨#[]⟩,.iface 412 (.pointer (some (ad 8)))])/\fM w W w' sp M p lo hi B X P:=by
 obtain⟨g,vc,rfl,⟨cur,hcur⟩,hcl⟩:=ints_at hrow.out hl0;obtain⟨m,hm⟩:=aG l.length;have lZ:0<m:=by omega
 have hc0:cur[0]?=some (Z x0):=by have:=hcl 0 x0 hx;rw[cR _ _ 0 _ _ _ hcur]at this;exact this
 rw[hm];have hb1:U W (W.alloc (.cells #[.slice (some (O g 0)) m vc,.string t] 280)):=aj;obtain⟨W1,hW1⟩:=aG (W.alloc (.cells #[.slice (some (O g 0)) m vc,.string t] 280));have hx1:W1.heap[W.heap.size]?=some (.cells #[.slice (some (O g 0)) m vc,.string t] 280 (0,0)):=by rw[<- hW1];exact hNq _ _
 rw[hW1]at hb1;have hbd:U W W1.drew:=ar hb1 cw;have H1:=Y (H.later hbd);have HW1:=Y hW1;have bH:=Y hbd;have bW:Hid (W1.drew.heap[W.heap.size]?=some (.cells #[.slice (some (O g 0)) m vc,.string t] 280 (0,0))):=Y hx1;have cy:=Y (bF hbd hcur);have mq:=Y hc0;clear hb1 hW1 hx1 hbd hm hcl hrow hc0 hcur;have lG:=Y (tW W1.drew (Y H1.cu.blk));have Ea:=Y (Pb W1.drew H1.cu.aV);have Eb:=Y (al9 x0 hn0 W1.drew (Y H1.cu.aV) hs hp);clear hx hp;go_enter func127,ntmps127;go_wp2;rw[HW1.out];obtain⟨bl,val,hcl,ay⟩:=gu (fun W'=>W'.heap[W.heap.size]?=some (.cells #[.slice (some (O g 0)) m vc,.string t] 280 (0,0))/\W'.heap[sp]?=some (.cells #[Rw p,.map (some M)] 153 (0,0))/\W'.heap[g]?=some (.cells cur 3 (0,0)));obtain⟨y0,dx⟩:=ay W1.drew ⟨bW,H1.blk,cy⟩;have hnx:Nonempty bl:=⟨y0⟩;have s0:=fun y0=>ag (hcl y0).1 0 rfl;have s1:=fun y0=>ag (hcl y0).1 1 rfl;have s2:=fun y0=>ag (hcl y0).2.1 0 rfl;have s3:∀y0,(val y0).cell? (O g 0)=some (Z x0):=fun y0=>by rw[cR _ _ _ _ _ _ (hcl y0).2.2];exact mq
 have aH:=Y ay;clear ay hcl;refine kt (val:=val) [4,5,10] [0,1,2,3,6,7,8,9,4,5,10,11] (by kernel_rfl) (by kernel_rfl) y0 dx ?_;rw[dx];clear dx
 iterate 8 (refine d7 rfl rfl (fun K hK=>?_);refine⟨by rfl,?_⟩;unfold aQ;go_simp;refine hK _ ?_;clear hK K)
 refine cY rfl rfl (fun K hK=>?_);refine⟨by rfl,?_⟩;unfold aB;go_simp;refine(lG).mono ?_;rintro e aD ⟨rfl,hwz⟩;subst aD;refine⟨_,rfl,aH _ ⟨bW,H1.blk,cy⟩,hK _ _ ?_⟩;clear hK K;refine cY rfl rfl (fun K hK=>?_);refine⟨by rfl,?_⟩;unfold aB;go_simp;refine(Ea).mono ?_;rintro e aD ⟨rfl,hwz⟩;subst aD;refine⟨_,rfl,aH _ ⟨bW,H1.blk,cy⟩,hK _ _ ?_⟩;clear hK K;refine cY rfl rfl (fun K hK=>?_);refine⟨by rfl,?_⟩;unfold aB;go_simp;refine(Eb).mono ?_;rintro e aD ⟨rfl,hwz⟩;subst aD;refine⟨_,rfl,aH _ ⟨bW,H1.blk,cy⟩,hK _ _ ?_⟩;clear hK K;refine d7 rfl rfl (fun K hK=>?_);refine⟨by rfl,?_⟩;unfold aQ;go_simp;refine hK _ ?_;clear hK K;refine jX ?_;go_wp2;go_ret2;exact⟨rfl,fM.same H bH⟩
theorem ame(v:Value)(l:List Int)(x0:Int)(hx:l[0]?=some x0)(t:ByteArray)(base:Nat)(W:World)(H:Hid (dO w W sp M p lo hi B X P))(hrow:Hid (W.ownsRow base 3 1 v l.length (dF l)))(hl0:0<l.length)(hn0:0<=x0)(hp:¬ (P.v.cut=true/\P.v.left=0)):
  Calls prog 127 #[Rw sp,.agg #[v,.string t]] W fun e w'=>e=.returned (.tuple #[.string ⟨#[111,107]⟩,.nilIface])/\fM w W w' sp M p lo hi B X { P with v:=Ve.wc P.v true x0.toNat }:=by
 obtain⟨g,vc,rfl,⟨cur,hcur⟩,hcl⟩:=ints_at hrow.out hl0;obtain⟨m,hm⟩:=aG l.length;have lZ:0<m:=by omega
 have hc0:cur[0]?=some (Z x0):=by have:=hcl 0 x0 hx;rw[cR _ _ 0 _ _ _ hcur]at this;exact this
 rw[hm];have hb1:U W (W.alloc (.cells #[.slice (some (O g 0)) m vc,.string t] 280)):=aj;obtain⟨W1,hW1⟩:=aG (W.alloc (.cells #[.slice (some (O g 0)) m vc,.string t] 280));have hx1:W1.heap[W.heap.size]?=some (.cells #[.slice (some (O g 0)) m vc,.string t] 280 (0,0)):=by rw[<- hW1];exact hNq _ _
 rw[hW1]at hb1;have hbd:U W W1.drew:=ar hb1 cw;have H1:=Y (H.later hbd);have HW1:=Y hW1;have bH:=Y hbd;have bW:Hid (W1.drew.heap[W.heap.size]?=some (.cells #[.slice (some (O g 0)) m vc,.string t] 280 (0,0))):=Y hx1;have cy:=Y (bF hbd hcur);have mq:=Y hc0;clear hb1 hW1 hx1 hbd hm hcl hrow hc0 hcur;have lG:=Y (tW W1.drew (Y H1.cu.blk));have Ea:=Y (Pb W1.drew H1.cu.aV);have Eb:=Y (amc x0 hn0 W1.drew (Y H1.cu.aV) hp);clear hx hp;generalize Ve.wc P.v true x0.toNat=S2 at *;go_enter func127,ntmps127;go_wp2;rw[HW1.out];obtain⟨bl,val,hcl,ay⟩:=gu (fun W'=>W'.heap[W.heap.size]?=some (.cells #[.slice (some (O g 0)) m vc,.string t] 280 (0,0))/\W'.heap[sp]?=some (.cells #[Rw p,.map (some M)] 153 (0,0))/\W'.heap[g]?=some (.cells cur 3 (0,0)));obtain⟨y0,dx⟩:=ay W1.drew ⟨bW,H1.blk,cy⟩;have hnx:Nonempty bl:=⟨y0⟩;have s0:=fun y0=>ag (hcl y0).1 0 rfl;have s1:=fun y0=>ag (hcl y0).1 1 rfl;have s2:=fun y0=>ag (hcl y0).2.1 0 rfl;have s3:∀y0,(val y0).cell? (O g 0)=some (Z x0):=fun y0=>by rw[cR _ _ _ _ _ _ (hcl y0).2.2];exact mq
 have aH:=Y ay;clear ay hcl;refine kt (val:=val) [4,5,10] [0,1,2,3,6,7,8,9,4,5,10,11] (by kernel_rfl) (by kernel_rfl) y0 dx ?_;rw[dx];clear dx
 iterate 8 (refine d7 rfl rfl (fun K hK=>?_);refine⟨by rfl,?_⟩;unfold aQ;go_simp;refine hK _ ?_;clear hK K)
 refine cY rfl rfl (fun K hK=>?_);refine⟨by rfl,?_⟩;unfold aB;go_simp;refine(lG).mono ?_;rintro e aD ⟨rfl,hwz⟩;subst aD;refine⟨_,rfl,aH _ ⟨bW,H1.blk,cy⟩,hK _ _ ?_⟩;clear hK K;refine cY rfl rfl (fun K hK=>?_);refine⟨by rfl,?_⟩;unfold aB;go_simp;refine(Ea).mono ?_;rintro e aD ⟨rfl,hwz⟩;subst aD;refine⟨_,rfl,aH _ ⟨bW,H1.blk,cy⟩,hK _ _ ?_⟩;clear hK K;refine cY rfl rfl (fun K hK=>?_);refine⟨by rfl,?_⟩;unfold aB;go_simp;refine(Eb).mono ?_;rintro e w2 ⟨rfl,h2,hs2⟩;have o7:=eX.of hs2 p;have hp2:=H1.cu.act h2 hs2;have nR:=Y (H1.act hp2 o7);have nS:=Y (o7.block bW (fun e=>aN bW H1.cu.blk (by decide) e) (mR H1.cu.aV bW (by decide)));have nT:=Y (o7.block cy (fun e=>aN cy H1.cu.blk (by decide) e) (mR H1.cu.aV cy (by decide)));have HST:=Y (((eX.refl W p B X).below bH).trans o7);have O9:=Y hp2;refine⟨_,rfl,aH _ ⟨nS,nR.blk,nT⟩,hK _ _ ?_⟩;clear hK K h2 hs2 o7 hp2;obtain⟨H1,bW,cy⟩:Hid _/\Hid _/\Hid _:=⟨nR,nS,nT⟩;refine d7 rfl rfl (fun K hK=>?_);refine⟨by rfl,?_⟩;unfold aQ;go_simp;refine hK _ ?_;clear hK K;refine jX ?_;go_wp2;go_ret2;exact⟨rfl,fM.of H O9 HST⟩
theorem dO.again{w2 w3:World}{B':bO}{X':bQ}{Q:Ve.St}{Hh:List Ve.dU}{p':Nat}(H:dO w W sp M p lo hi B X P)(hg:Y_ w W w2 B B' X X' 10 2 0 100 20000 100 P.v Hh)(hp':p'=w2.heap.size)(h3:eF w w3 p' B' X' 10 2 0 (Pl.new Q))(hb3:U w2 w3):
  dO w (w3.setCell (O sp 0) (Rw p')) sp M p' lo hi B' X' (Pl.new Q)/\aL W (w3.setCell (O sp 0) (Rw p')) (fun k=>k=sp\/k=p\/dV B X k):=by
 have Ij:∀k,(k=B.d\/X.bZ.ownBlock=some k)->dV B X k:=fun k h=>h.elim (fun e=>.inr (.inr (.inr (.inr (.inl e))))) (fun e=>.inr (.inr (.inr (.inr (.inr e)))));have ml:aL W w3 (fun k=>dV B X k):=(hg.turned.mono Ij).trans (aL.of_below hb3 (fun _=>False)) (fun _ h=>h.elim);have wN:w3.heap[sp]?=some (.cells #[Rw p,.map (some M)] 153 (0,0)):=by rw[ml.block sp (lBq H.blk) (mR H.cu.aV H.blk (by decide))];exact H.blk
 have wO:aL w3 (w3.setCell (O sp 0) (Rw p')) (fun k=>k=sp):=aL.setCell _ _ _ _;have hsz:=hg.turned.size;refine⟨⟨by rw[block_setCell wN];rfl,⟨?_,h3.aV.aside wO (fun e=>aN h3.aV.fl.blk wN (by decide) e) (fun k hk e=>mR h3.aV wN (by decide) (e▸hk)) (fun k e=>e▸H.low),h3.lo⟩,?_,H.m,fun k h4 h5=>⟨by have:=H.le;omega,fun h6=>?_⟩,?_,H.ge,H.low⟩,?_⟩
 .rw[wO.block p' (lBq h3.blk) (fun e=>aN h3.blk wN (by decide) e)];exact h3.blk
 .refine H.AU.keep H.m (fun b hb hl=>⟨hb,?_⟩)
  rw[wO.block b (Nat.lt_of_lt_of_le hl ml.size) (by have:=H.ge;omega),ml.block b hl (H.ap b hb.1 hb.2).2]
 .rcases hg.own k h6 with h7 | h7
  .have:=H.le;omega
  .exact(H.ap k h4 h5).2 (Ij k h7)
 .exact lTq H.le (lTq ml.size wO.size)
 .exact(ml.mono (fun _ h=>.inr (.inr h))).trans (wO.mono (fun _ h=>.inl h)) (fun _ h=>.inl h)
theorem amf(v:Value)(t:ByteArray)(W:World)(hv:∃a n c,v=.slice a n c)(H:Hid (dO w W sp M p lo hi B X P))(hs:Hid (bJ w ad))(hL:Hid (ik w))(Hh:List Ve.dU)(hI:Hid (Ve.dK 10 2 0 (Ve.init 100 20000 100) Hh P.v))(hl:Hh.length<=1000000)(htl:P.v.tp.length<=1048576):
  Calls prog 128 #[Rw sp,.agg #[v,.string t]] W fun e w'=>e=.returned (.tuple #[.string ⟨#[111,107]⟩,.nilIface])/\fM w W w' sp M p lo hi B X (Pl.new (Ve.jy 10 2 0 100 20000 100 Hh)):=by
 obtain⟨va,Ik,vc,rfl⟩:=hv;have hb1:U W (W.alloc (.cells #[.slice va Ik vc,.string t] 280)):=aj;obtain⟨W1,hW1⟩:=aG (W.alloc (.cells #[.slice va Ik vc,.string t] 280));rw[hW1]at hb1;have hbd:U W W1.drew:=ar hb1 cw;have H1:=Y (H.later hbd);have HW1:=Y hW1;have bH:=Y hbd;clear hb1 hW1 hbd;have Pd:=Y (WM 0 W1.drew);rw[show (0:Int)%4294967296=0 by decide]at Pd;have lG:=Y (fun W' (h':dO w W' sp M p lo hi B X P)=>tW W' (Y h'.cu.blk));have Ea:=Y (fun W' (h':dO w W' sp M p lo hi B X P)=>Pb W' h'.cu.aV);have FX:=Y (fun W' (h':dO w W' sp M p lo hi B X P)=>amg 100 20000 100 Hh W' (Y h'.cu.aV) hs hL (Y (show bm.jK 10 2=true by decide)) (Y (show ah.aK 100 1 1000=true by decide)) (Y Y') hI hl htl);go_enter func128,ntmps128;go_wp2;rw[HW1.out];obtain⟨bl,val,hcl,ay⟩:=gu (fun W'=>W'.heap[sp]?=some (.cells #[Rw p,.map (some M)] 153 (0,0)));obtain⟨y0,dx⟩:=ay W1.drew H1.blk;have hnx:Nonempty bl:=⟨y0⟩;have s2:=fun y0=>ag (hcl y0) 0 rfl;have aH:=Y ay;clear ay hcl;unfold jb at Pd FX;refine kt (val:=val) [0,5,6,7] [1,2,3,4,0,5,6,7,8,9,10,11,12] (by kernel_rfl) (by kernel_rfl) y0 dx ?_;rw[dx];clear dx
 iterate 4 (refine d7 rfl rfl (fun K hK=>?_);refine⟨by rfl,?_⟩;unfold aQ;go_simp;refine hK _ ?_;clear hK K)
 refine cY rfl rfl (fun K hK=>?_);refine⟨by rfl,?_⟩;unfold aB;go_simp;refine Pd.mono ?_;rintro e w2 ⟨rfl,hb2⟩;have H2:=Y (H1.later hb2);have HB2:=Y (ar bH hb2);refine⟨_,rfl,aH _ H2.blk,hK _ _ ?_⟩;clear hK K hb2;refine cY rfl rfl (fun K hK=>?_);refine⟨by rfl,?_⟩;unfold aB;go_simp;refine(lG _ H2).mono ?_;rintro e aD ⟨rfl,hwz⟩;subst aD;refine⟨_,rfl,aH _ H2.blk,hK _ _ ?_⟩;clear hK K;refine cY rfl rfl (fun K hK=>?_);refine⟨by rfl,?_⟩;unfold aB;go_simp;refine(Ea _ H2).mono ?_;rintro e aD ⟨rfl,hwz⟩;subst aD;refine⟨_,rfl,aH _ H2.blk,hK _ _ ?_⟩;clear hK K;refine cY rfl rfl (fun K hK=>?_);refine⟨by rfl,?_⟩;unfold aB;go_simp;refine(FX _ H2).mono ?_;rintro e w3 ⟨B',X',rfl,hg⟩;have wN:w3.heap[sp]?=some (.cells #[Rw p,.map (some M)] 153 (0,0)):=by rw[hg.turned.block sp (lBq H2.out.blk) (fun h=>mR H2.out.cu.aV H2.out.blk (by decide) (h.elim (fun e=>.inr (.inr (.inr (.inr (.inl e))))) (fun e=>.inr (.inr (.inr (.inr (.inr e)))))))];exact H2.blk
 refine⟨_,rfl,aH _ wN,hK _ _ ?_⟩;clear hK K
 iterate 5 (refine d7 rfl rfl (fun K hK=>?_);refine⟨by rfl,?_⟩;unfold aQ;go_simp;refine hK _ ?_;clear hK K)
 refine jX ?_;have HG:=Y hg;have Pe:=Y (WL w3 (Y hg.aV));clear hg aH s2
 go_wp2_with fail
 refine Pe.mono ?_;rintro e w4 ⟨rfl,h4,hb4⟩;have Pf:=bF hb4 wN;have z0:=ag Pf 0 rfl;have amh:=aC Pf 0;have HA:=Y (H2.again HG rfl h4 hb4);have HT:=Y ((aL.of_below HB2 (fun k=>k=sp\/k=p\/dV B X k)).trans HA.2 (fun _ h=>.inl h));clear wN Pf h4 hb4;simp only[];go_wp2;go_ret2;exact⟨rfl,_,_,_,HA.1,HT⟩
theorem ami(v:Value)(t:ByteArray)(W:World)(hv:∃a n c,v=.slice a n c)(H:Hid (dO w W sp M p lo hi B X P))(hbt:Hid (iF w))(at0:P.v.bt<=1000000):
  Calls prog 129 #[Rw sp,.agg #[v,.string t]] W fun e w'=>e=.returned (.tuple #[.string (se P.v.bt),.nilIface])/\fM w W w' sp M p lo hi B X P:=by
 obtain⟨va,Ik,vc,rfl⟩:=hv;have hb1:U W (W.alloc (.cells #[.slice va Ik vc,.string t] 280)):=aj;have H1:=Y (H.later hb1);have bH:=Y hb1;have lG:=Y (tW _ (Y H1.cu.blk));have Il:=Y (amj _ H1.cu.aV);have xO:=Y (WG (P.v.bt:Int) (by omega) (by omega) _ (hbt _ H1.cu.aV.bG));have z0:=H1.cell.1;generalize se (P.v.bt:Int)=tt at *;clear hb1;go_enter func129,ntmps129
 go_wp2_with fail
 refine lG.mono ?_;rintro e aD ⟨rfl,hwz⟩;subst aD;simp only[]
 go_wp2_with fail
 refine Il.mono ?_;rintro e aD ⟨rfl,hwz⟩;subst aD;simp only[]
 go_wp2_with fail
 refine xO.mono ?_;rintro e w2 ⟨rfl,hb2⟩;have HB2:=Y (ar bH hb2);clear hb2;simp only[];go_wp2;go_ret2;exact⟨rfl,fM.same H HB2⟩
end
end bg
namespace bg
section
variable {w W:World} {ad:Nat->Addr} {sp M p lo hi:Nat} {B:bO} {X:bQ} {P:Pl.St}
theorem amo(v:Value)(l:List Int)(x0:Int)(hx:l[0]?=some x0)(t:ByteArray)(base:Nat)(W:World)(H:Hid (dO w W sp M p lo hi B X P))(hrow:Hid (W.ownsRow base 3 1 v l.length (dF l)))(hl0:0<l.length)(hs:Hid (bJ w ad))(hbt:Hid (iF w))(ht:Hid (Lib.TabBelow prog w.heap.size w "internal/strconv.uint64pow10" .u64 Lib.pow10Tab)){N:Nat}(hok:Hid (Ve.Ok N 10 2 P.v))(hN:N<=900000)(T:Nat)(ZW:x0=T)(hT:T<=50)(qX:Hid (∀r∈Ve.oZ 10 2 0 P.v T,kZ r)):
  Calls prog 122 #[Rw sp,.agg #[v,.string t]] W fun e w'=>e=.returned (.tuple #[.string (iH ((Ve.oZ 10 2 0 P.v T).map fE)),.nilIface])/\fM w W w' sp M p lo hi B X { P with v:=Ve.gL 10 2 0 P.v T }/\Ve.Ok (N+T) 10 2 (Ve.gL 10 2 0 P.v T):=by
 have DW:=Y ZW;clear ZW;obtain⟨g,vc,rfl,⟨cur,hcur⟩,hcl⟩:=ints_at hrow.out hl0;obtain⟨m,hm⟩:=aG l.length;have lZ:0<m:=by omega
 have hc0:cur[0]?=some (Z x0):=by have:=hcl 0 x0 hx;rw[cR _ _ 0 _ _ _ hcur]at this;exact this
 rw[hm];have hb1:U W (W.alloc (.cells #[.slice (some (O g 0)) m vc,.string t] 280)):=aj;obtain⟨W1,hW1⟩:=aG (W.alloc (.cells #[.slice (some (O g 0)) m vc,.string t] 280));have hx1:W1.heap[W.heap.size]?=some (.cells #[.slice (some (O g 0)) m vc,.string t] 280 (0,0)):=by rw[<- hW1];exact hNq _ _
 rw[hW1]at hb1;have hbd:U W W1:=hb1;have H1:=Y (H.later hbd);have HW1:=Y hW1;have bH:=Y hbd;have bW:Hid (W1.heap[W.heap.size]?=some (.cells #[.slice (some (O g 0)) m vc,.string t] 280 (0,0))):=Y hx1;have cy:=Y (bF hbd hcur);have mq:=Y hc0;clear hb1 hW1 hx1 hbd hm hcl hrow hc0 hcur;clear hx;have s0:=ag bW 0 rfl;have s3:W1.cell? (O g 0)=some (Z x0):=by rw[cR _ _ _ _ _ _ cy.out];exact mq
 go_enter func122,ntmps122
 go_wp2_with (rw[HW1.out])
 go_loopw [6,11] (fun yG kv wr=>∃(j:Nat) (X':bQ),j<=T/\kv=Z j/\eF w wr p B X' 10 2 0 { P with v:=Ve.gL 10 2 0 P.v j }/\eX W wr p B X X'/\kx wr W.heap.size yG (Ve.oZ 10 2 0 P.v j)/\Ve.Ok (N+j) 10 2 (Ve.gL 10 2 0 P.v j)/\(Ve.oZ 10 2 0 P.v j).length<=2900*j/\wr.heap[sp]?=some (.cells #[Rw p,.map (some M)] 153 (0,0))) (fun _ kv _=>T-(intOf kv).toNat)
 case atStart=>exact⟨0,X,Nat.zero_le _,rfl,H1.cu,(eX.refl W p B X).below bH,World.ownsRow_nil _ _ _ _,hok,E _,H1.blk⟩
 case round =>
  obtain⟨j,X',hj,rfl,hp,hst,ZX,ZY,hlk,hblk⟩:=hrel;have HP:=Y hp;have HST:=Y hst;have yX:=Y ZX;have kE:=Y ZY;have AY:=Y hlk;have wM:=Y hblk;clear hp hst ZX ZY hlk hblk s0 s3;by_cases hlt:j<T
  .have aT:(j:Int)<x0:=by rw[DW.out];omega
   have c0:=ag wM 0 rfl;have IQ:Hid (Ve.gL 10 2 0 P.v (j+1)=Ve.df 10 2 0 (Ve.gL 10 2 0 P.v j)):=Y rfl;have nA:Hid (Ve.oZ 10 2 0 P.v (j+1)=Ve.oZ 10 2 0 P.v j++Ve.je 10 2 0 (Ve.gL 10 2 0 P.v j)):=Y rfl;generalize Ve.gL 10 2 0 P.v j=S3 at *;generalize Ve.oZ 10 2 0 P.v j=oC at *;have lG:=Y (tW wr (Y HP.blk));have rY:=Y (anM wr HP.aV hs ht kE (by omega))
   go_wp2_with fail
   refine lG.mono ?_;rintro e aD ⟨rfl,hwz⟩;subst aD;simp only[]
   go_wp2_with fail
   refine rY.mono ?_;rintro e w4 ⟨v4,p9,rfl,h4,cK,hr4,yA,hl4,anN⟩;have hb3:W.heap.size<=w4.heap.size:=lTq HST.turned.size cK.turned.size;have Ex:kx w4 W.heap.size u6 oC:=cK.row HP.aV yX (by decide);have CX:=HP.act h4 cK;have IW:=cK.block HP.aV wM (by decide);obtain⟨v5,aI,hap,fI,nN⟩:=anO w4 u6 v4 oC (Ve.je 10 2 0 S3) Ex hr4 (by have:=AY.out;omega) (by omega) hb3;have H5:=Y (CX.grown Ex (lTq H.cu.aV.lo (Nat.le_of_lt H.cu.aV.lt)) nN);have fu:=Y ((HST.trans (eX.of cK p)).grown Ex (E _) nN);have anP:Hid (aI.heap[sp]?=some (.cells #[Rw p,.map (some M)] 153 (0,0))):=Y (by
    rw[nN.block sp (lBq IW) (fun e=>?_)]
    .exact IW
    .obtain⟨_,cur,h2⟩:=cB Ex e.symm
     exact aN h2 IW (by decide) rfl)
   have bE:=Y fI;have cW:=Y hap;have anQ:=Y yA;clear hap fI nN Ex h4 cK hr4 yA c0 CX IW anN;simp only[]
   go_wp2_with (at_builtin;refine wpList_append_run rfl _ _ 55 rfl _ _ _ rfl rfl cW ?_)
   go_roundw
   case rel=>exact⟨j+1,p9,hlt,by go_num,by rw[IQ.out];exact H5,fu,by rw[nA.out];exact bE,by rw[IQ.out];exact anQ,by rw[nA.out,lAq];have:=AY.out;omega,anP⟩
   case measure=>simp[intOf];omega
  .have aT:¬ (j:Int)<x0:=by rw[DW.out];omega
   obtain rfl:j=T:=by omega
   have iX:=Y (O_ u6 _ _ wr yX (Y (hbt.later HP.aV.bG)) qX (by have:=AY.out;omega));obtain⟨O0,PT⟩:=aG (iH ((Ve.oZ 10 2 0 P.v j).map fE));rw[PT]at iX;have anR:=Y PT;clear PT
   go_wp2_with fail
   refine iX.mono ?_;rintro e w4 ⟨rfl,hb4⟩;have oK:=Y ((fM.of H HP HST).later hb4);clear hb4;simp only[];go_wp2;go_ret2;exact⟨by rw[anR.out];rfl,oK,kE⟩
end
end bg
end
namespace bg
def Fits(sp:List (Int×Int))(l:List Int):Prop:=l.length=sp.length/\∀i,i<sp.length->(sp.getD i (0,0)).1<=l.getD i 0/\l.getD i 0<=(sp.getD i (0,0)).2
theorem YN{sp:List (Int×Int)}{ps:List ByteArray}:∀{k:Nat} {l:List Int},nums sp ps k=some l->l.length=k/\∀i,i<k->(sp.getD i (0,0)).1<=l.getD i 0/\l.getD i 0<=(sp.getD i (0,0)).2
 | 0,l,h=>by cases h;exact⟨rfl,fun i hi=>absurd hi (by omega)⟩
 | k+1,l,h=>by
  unfold nums at h;cases hk:nums sp ps k with
  | none=>rw[hk]at h;cases h
  | some l1 =>
   rw[hk]at h;simp only at h;obtain⟨h1,h2⟩:=YN hk;cases hn:gK 7 (ps.getD (1+k) ⟨#[]⟩) with
   | none=>rw[hn]at h;cases h
   | some n =>
    rw[hn]at h;simp only at h;split at h
    .rename_i hw
     simp only[ah.aK,Bool.and_eq_true,decide_eq_true_eq]at hw;cases h;refine⟨by rw[lAq,h1];rfl,fun i hi=>?_⟩;by_cases hik:i<k
     .rw[show (l1++[(n:Int)]).getD i 0=l1.getD i 0 by rw[gE,List.getElem?_append_left (by omega),<- gE]]
      exact h2 i hik
     .obtain rfl:i=k:=by omega
      rw[show (l1++[(n:Int)]).getD i 0=(n:Int) by rw[gE,List.getElem?_append_right (by omega),h1,Nat.sub_self];rfl];exact hw
    .cases h
theorem YO{sp:List (Int×Int)}{bD:Bool}{s:ByteArray}{l:List Int}{t:ByteArray}(h:rd sp bD s=some (l,t)):Fits sp l:=by
 unfold rd at h;split at h
 .obtain⟨l1,h1,h2⟩:=Option.map_eq_some_iff.1 h
  cases h2;exact YN h1
 .cases h
open Classical in
noncomputable def wF (P:Pl.St):List Ve.dU:=if h:∃H,Ve.dK 10 2 0 (Ve.init 100 20000 100) H P.v then Classical.choose h else []
def okB:ByteArray:=⟨#[111,107]⟩
noncomputable def mV (d:Nat) (P:Pl.St) (l:List Int) (t:ByteArray):(ByteArray×Option Nat)×Pl.St :=
 if d<114 then ((iH ((Pl.kS P (l.getD 0 0).toNat (hZ d l)).map fE),none),Pl.g_ P (l.getD 0 0).toNat (hZ d l))
 else if d=122 then ((iH ((Ve.oZ 10 2 0 P.v (l.getD 0 0).toNat).map fE),none),{ P with v:=Ve.gL 10 2 0 P.v (l.getD 0 0).toNat })
 else if d=123 then ((iH ((Ve.eW P.v (l.getD 0 0) t).map fE),none),{ P with v:=Ve.di P.v (l.getD 0 0) t })
 else if d=124 then ((iH ((P.v.L (l.getD 0 0).toNat).map ku),none),P)
 else if d=125 then ((jZ 32 [P.v.n ((l.getD 0 0).toNat*2),P.v.n ((l.getD 0 0).toNat*2+1)],none),P)
 else if d=126 then ((jZ 32 (jc (fun j=>P.v.pf ((l.getD 0 0).toNat*8+j)) 3),none),P)
 else if d=127 then (if P.v.cut=true/\P.v.left=0 then ((⟨#[]⟩,some 8),P) else ((okB,none),{ P with v:=Ve.wc P.v true (l.getD 0 0).toNat }))
 else if d=128 then ((okB,none),Pl.new (Ve.jy 10 2 0 100 20000 100 (wF P)))
 else ((se P.v.bt,none),P)
structure Inv (K:Nat) (P:Pl.St):Prop where
 bt:P.v.bt<=K
 ok:Ve.Ok (4*K) 10 2 P.v
 fine:Pl.kr K P
 wG:∃H,Ve.dK 10 2 0 (Ve.init 100 20000 100) H P.v
theorem Inv.s9{K:Nat}{P:Pl.St}(I:Inv K P):Ve.dK 10 2 0 (Ve.init 100 20000 100) (wF P) P.v:=by unfold wF;rw[dif_pos I.wG];exact Classical.choose_spec I.wG
theorem Inv.more{K K':Nat}{P:Pl.St}(I:Inv K P)(h:K<=K'):Inv K' P :=
 ⟨lTq I.bt h,Dr I.ok (by omega),⟨fun c hc=>by have:=I.fine.ak c hc;omega,fun c hc=>by have:=I.fine.pl c hc;omega⟩,I.wG⟩
theorem YP(S:Ve.St)(n:Nat)(b:ByteArray):∀k,(Ve.dn S n b k).bt=S.bt
 | 0=>rfl
 | k+1=>by
  show (Ve.jE (Ve.dn S n b k) n (fr b k)).bt=S.bt;rw[<- YP S n b k];unfold Ve.jE
  repeat' split
  all_goals rfl
theorem YQ(S:Ve.St)(n:Int)(s:ByteArray):(Ve.di S n s).bt=S.bt:=by
 unfold Ve.di;split
 .rfl
 .rw[YP];rfl
theorem OX{n:ByteArray}{c:mW}(h:tab n=some c):c=⟨[cZ],false,108⟩\/c=⟨[cZ],false,104⟩\/c=⟨[cZ],false,113⟩\/c=⟨[cZ,eG,num,gy,gy],false,0⟩\/c=⟨[cZ,eG,num,gy,gy],false,1⟩\/c=⟨[cZ,eG,num],false,99⟩ \/
  c=⟨[(1,50)],false,122⟩\/c=⟨[cZ],true,123⟩\/c=⟨[eG],false,124⟩\/c=⟨[eG],false,125⟩\/c=⟨[cZ],false,126⟩\/c=⟨[num],false,127⟩\/c=⟨[],false,128⟩\/c=⟨[],false,129⟩:=by
 unfold tab at h;obtain⟨x,hx,rfl⟩:=Option.map_eq_some_iff.1 h;have hm:=List.mem_of_find?_eq_some hx;simp only[cmds,List.map_cons,List.map_nil,List.mem_cons,List.not_mem_nil,or_false]at hm;rcases hm with rfl | rfl | rfl | rfl | rfl | rfl | rfl | rfl | rfl | rfl | rfl | rfl | rfl | rfl <;> simp only[true_or,or_true]
theorem alh{K:Nat}{P:Pl.St}(I:Inv K P)(hK:K<=100000){n:ByteArray}{c:mW}(hc:tab n=some c){l:List Int}(hl:Fits c.sp l)(t:ByteArray):Inv (K+50) (mV c.d P l t).2:=by
 have hI:=I.more (show K<=K+50 by omega);have ali:∀m s,Inv (K+50) { P with v:=Ve.di P.v m s }:=fun m s=>⟨by rw[YQ];exact hI.bt,WB hI.ok _ _,⟨hI.fine.ak,hI.fine.pl⟩,I.wG.imp fun H h=>h.feed m s⟩;have hsend:∀m,m<6->∀a,Inv (K+50) (Pl.g_ P m a):=fun m hm a=>by
  obtain⟨e1,e2⟩:=Pl.ai5 P m a;have hf:Pl.kr (K+50) (Pl.g_ P m a):=⟨fun d hd=>by rw[e1];have:=Pl.ai6 I.fine hm a.k d hd;omega,fun d hd=>by rw[e2];have:=I.fine.pl d hd;omega⟩;refine⟨?_,Dr (Pl.ai4 I.ok m a) (by omega),hf,?_⟩
  .unfold Pl.g_
   split
   .rw[YQ];exact hI.bt
   .exact hI.bt
  .unfold Pl.g_
   split
   .exact I.wG.imp fun H h=>h.feed _ _
   .exact I.wG
 have hcut:∀m:Int,m<=9223372036854775807->Inv (K+50) { P with v:=Ve.wc P.v true m.toNat }:=fun m hm=>⟨hI.bt,Ve.alj hI.ok (by omega),⟨hI.fine.ak,hI.fine.pl⟩,I.wG.imp fun H h=>⟨⟨h.d9.L,h.d9.pf,h.d9.n,h.d9.bt⟩,h.len,h.ok,h.tp,h.q,h.tn⟩⟩;have alk:∀m,m<=50->Inv (K+50) { P with v:=Ve.gL 10 2 0 P.v m }:=fun m hm=>by
  obtain⟨H,h⟩:=I.wG;obtain⟨g1,_⟩:=OY h I.ok m (by have:=I.bt;omega);obtain⟨H1,g2,_,g3⟩:=h.ticks m (by have:=I.bt;omega);exact⟨by have:=I.bt;show (Ve.gL 10 2 0 P.v m).bt<=_;omega,Dr g1 (by omega),⟨hI.fine.ak,hI.fine.pl⟩,H1,g2⟩
 have alm:Inv (K+50) (Pl.new (Ve.jy 10 2 0 100 20000 100 (wF P))):=by
  have h:=I.s9;have hl:=h.len;have hb:=I.bt;have hbt:(Ve.jy 10 2 0 100 20000 100 (wF P)).bt=(wF P).length:=(Ve.OZ _).1;refine⟨by show (Ve.jy 10 2 0 100 20000 100 (wF P)).bt<=_;omega,Ve.aln ?_ (by omega) ?_,?_,_,Ve.alo h.ok⟩
  .have h1:=I.ok.all
   rw[h.d9.L,h.d9.pf,h.d9.n]at h1;exact h1
  .obtain⟨tail,e,_⟩:=h.tp
   have:=I.ok.tp
   rw[e,lAq]at this;omega
  .have:=Pl.WK (Ve.jy 10 2 0 100 20000 100 (wF P))
   exact⟨fun c hc=>by have:=this.ak c hc;omega,fun c hc=>by have:=this.pl c hc;omega⟩
 have hcm:=OX hc;clear hc;have h0:0<c.sp.length->(c.sp.getD 0 (0,0)).1<=l.getD 0 0/\l.getD 0 0<=(c.sp.getD 0 (0,0)).2:=fun h=>hl.2 0 h;clear hl;rcases hcm with rfl | rfl | rfl | rfl | rfl | rfl | rfl | rfl | rfl | rfl | rfl | rfl | rfl | rfl
 iterate 6 (have h1:0<=l.getD 0 0/\l.getD 0 0<=5:=h0 (by decide);exact hsend _ (by omega) _)
 .have h1:1<=l.getD 0 0/\l.getD 0 0<=50:=h0 (by decide);exact alk _ (by omega)
 .exact ali _ _
 .exact hI
 .exact hI
 .exact hI
 .have h1:0<=l.getD 0 0/\l.getD 0 0<=9223372036854775807:=h0 (by decide)
  show Inv (K+50) (if P.v.cut=true/\P.v.left=0 then ((((⟨#[]⟩:ByteArray),some 8),P):(ByteArray×Option Nat)×Pl.St) else ((okB,none),{ P with v:=Ve.wc P.v true (l.getD 0 0).toNat })).2;split
  .exact hI
  .exact hcut _ h1.2
 .exact alm
 .exact hI
end bg
section
open Go.RowKit
namespace bg
def fq(ad:Nat->Addr):Option Nat->Value
 | none=>.nilIface
 | some k=>.iface 412 (.pointer (some (ad k)))
theorem amk{S:Ve.St}{t:ByteArray}(h:∀c,c<6->(S.aF c++t).size<=100000)(x:Int):(Ve.eW S x t).length<=1000000:=by
 unfold Ve.eW;split
 .exact Nat.zero_le _
 .rename_i hc
  have hw:ah.aK x 0 5=true:=by
   cases h:ah.aK x 0 5 with
   | true=>rfl
   | false=>exact absurd (.inr h) hc
  simp only[ah.aK,Bool.and_eq_true,decide_eq_true_eq]at hw;have h1:=Pl.NC (Ve.gw S x.toNat (S.aF x.toNat++t)) x.toNat (S.aF x.toNat++t) ((S.aF x.toNat++t).size/30);have h2:=h x.toNat (by omega);omega
section
variable {w W:World} {ad:Nat->Addr} {sp M p lo hi:Nat} {B:bO} {X:bQ} {P:Pl.St}
theorem aml{n:ByteArray}{c:mW}(hc:tab n=some c){l:List Int}(hl:Fits c.sp l){t:ByteArray}(Pg:t.size<=1000){f:Fn}{cs:Array Value}{v:Value}{base K:Nat}(I:Inv K P)(hK:K<=100000)(H:Hid (dO w W sp M p lo hi B X P))(hd:jd (fun b=>lo<=b/\b<hi) c.d (.func f #[] cs) W)(hrow:Hid (W.ownsRow base 3 1 v l.length (dF l)))(hs:Hid (bJ w ad))(hbt:Hid (iF w))(hL:Hid (ik w)):
  ∃g,f=.func g/\(∀args w,(callFunc g args).run prog w=.ok (.enter g args) w)/\Calls prog g (#[Rw sp,.agg #[v,.string t]]++cs) W fun e w'=>e=.returned (.tuple #[.string (mV c.d P l t).1.1,fq ad (mV c.d P l t).1.2])/\fM w W w' sp M p lo hi B X (mV c.d P l t).2:=by
 have h0:∀i,i<c.sp.length->(c.sp.getD i (0,0)).1<=l.getD i 0/\l.getD i 0<=(c.sp.getD i (0,0)).2:=hl.2;have hlen:=hl.1;have hx0:0<l.length->l[0]?=some (l.getD 0 0):=fun h=>by rw[gE,List.getElem?_eq_getElem h];rfl
 have hF:=I.fine;have hO:=I.ok;have amm:∀d,d<114->jd (fun b=>lo<=b/\b<hi) d (.func f #[] cs) W->need d<=l.length->(0<=l.getD 0 0/\l.getD 0 0<=5) ->
   ∃g,f=.func g/\(∀args w,(callFunc g args).run prog w=.ok (.enter g args) w)/\Calls prog g (#[Rw sp,.agg #[v,.string t]]++cs) W fun e w'=>e=.returned (.tuple #[.string (iH ((Pl.kS P (l.getD 0 0).toNat (hZ d l)).map fE)),.nilIface])/\fM w W w' sp M p lo hi B X (Pl.g_ P (l.getD 0 0).toNat (hZ d l)):=fun d o8 qC hn at1=>by
  rcases qC with ⟨_,b,u,hbS,e,hb1,hu⟩ | ⟨h,_⟩
  .cases e
   refine⟨_,rfl,enters_of func175 (by kernel_rfl) rfl,?_⟩;have hC:(l.getD 0 0).toNat<6:=by omega
   have hac:(hZ d l).c=((l.getD 0 0).toNat:Int):=by
    rw[show (((l.getD 0 0).toNat:Nat):Int)=l.getD 0 0 by omega];unfold hZ
    repeat' split
    all_goals rfl
   have hnx:=hF.ak _ hC;refine amn d b u v l t base W H hs hbt (Y hb1) hbS (Y hu) hrow hn _ hC hac (by omega) (by omega) (Y hO.aF) (Y ?_) (lTq (Pl.ai3 hO.aF hC _) (by decide));unfold Pl.kS;split
   .exact Za _ _ _
   .intro r hr;cases hr
  .omega
 have wP:∀d,114<=d->jd (fun b=>lo<=b/\b<hi) d (.func f #[] cs) W->f=.func d/\cs=#[]:=fun d h1 h2=>by
  rcases h2 with ⟨h,_⟩ | ⟨_,e⟩
  .omega
  .cases e;exact⟨rfl,rfl⟩
 have hcm:=OX hc;clear hc hl;rcases hcm with rfl | rfl | rfl | rfl | rfl | rfl | rfl | rfl | rfl | rfl | rfl | rfl | rfl | rfl
 iterate 6 exact amm _ (by decide) hd (by rw[hlen];decide) (h0 0 (by show 0<_;decide))
 .obtain⟨rfl,rfl⟩:=wP _ (by decide) hd
  refine⟨_,rfl,enters_of func122 (by kernel_rfl) rfl,?_⟩;have hl0:0<l.length:=by rw[hlen];decide
  have h1:1<=l.getD 0 0/\l.getD 0 0<=50:=h0 0 (by show 0<_;decide);refine(amo v l _ (hx0 hl0) t base W H hrow hl0 hs hbt hbt (Y hO) (by omega) (l.getD 0 0).toNat (by omega) (by omega) (Y (OY I.s9 hO _ (by have:=I.bt;omega)).2)).mono ?_;rintro e w' ⟨h2,h3,_⟩;exact⟨h2,h3⟩
 .obtain⟨rfl,rfl⟩:=wP _ (by decide) hd
  refine⟨_,rfl,enters_of func123 (by kernel_rfl) rfl,?_⟩;have hl0:0<l.length:=by rw[hlen];decide
  have hz:∀c,c<6->(P.v.aF c++t).size<=100000:=fun c hc=>by have:=hO.aF c hc;rw[ByteArray.size_append];omega
  exact al8 v l _ (hx0 hl0) t base W H hrow hl0 hs hbt (Y hz) (Y (Za _ _ _)) (amk hz _)
 .obtain⟨rfl,rfl⟩:=wP _ (by decide) hd
  refine⟨_,rfl,enters_of func124 (by kernel_rfl) rfl,?_⟩;have hl0:0<l.length:=by rw[hlen];decide
  have h1:0<=l.getD 0 0/\l.getD 0 0<=2:=h0 0 (by show 0<_;decide);exact al6 v l _ (hx0 hl0) t base W H hrow hl0 hbt (Y hO.all) (l.getD 0 0).toNat (by omega) (by omega)
 .obtain⟨rfl,rfl⟩:=wP _ (by decide) hd
  refine⟨_,rfl,enters_of func125 (by kernel_rfl) rfl,?_⟩;have hl0:0<l.length:=by rw[hlen];decide
  have h1:0<=l.getD 0 0/\l.getD 0 0<=2:=h0 0 (by show 0<_;decide);exact al4 v l _ (hx0 hl0) t base W H hrow hl0 hbt (Y hO.all) (l.getD 0 0).toNat (by omega) (by omega)
 .obtain⟨rfl,rfl⟩:=wP _ (by decide) hd
  refine⟨_,rfl,enters_of func126 (by kernel_rfl) rfl,?_⟩;have hl0:0<l.length:=by rw[hlen];decide
  have h1:0<=l.getD 0 0/\l.getD 0 0<=5:=h0 0 (by show 0<_;decide);exact al5 v l _ (hx0 hl0) t base W H hrow hl0 hbt (Y hO.all) (l.getD 0 0).toNat (by omega) (by omega)
 .obtain⟨rfl,rfl⟩:=wP _ (by decide) hd
  refine⟨_,rfl,enters_of func127 (by kernel_rfl) rfl,?_⟩;have hl0:0<l.length:=by rw[hlen];decide
  have h1:0<=l.getD 0 0/\l.getD 0 0<=9223372036854775807:=h0 0 (by show 0<_;decide);by_cases hp:P.v.cut=true/\P.v.left=0
  .have e:mV 127 P l t=((⟨#[]⟩,some 8),P):=if_pos hp
   rw[e];exact amd v l _ (hx0 hl0) t base W H hrow hl0 hs h1.1 hp
  .have e:mV 127 P l t=((okB,none),{ P with v:=Ve.wc P.v true (l.getD 0 0).toNat }):=if_neg hp
   rw[e];exact ame v l _ (hx0 hl0) t base W H hrow hl0 h1.1 hp
 .obtain⟨rfl,rfl⟩:=wP _ (by decide) hd
  refine⟨_,rfl,enters_of func128 (by kernel_rfl) rfl,?_⟩;obtain⟨va,vc,hv⟩:=Ec hrow;exact amf v t W ⟨_,_,_,hv⟩ H hs hL _ (Y I.s9) (by have:=I.s9.len;have:=I.bt;omega) hO.tp
 .obtain⟨rfl,rfl⟩:=wP _ (by decide) hd
  refine⟨_,rfl,enters_of func129 (by kernel_rfl) rfl,?_⟩;obtain⟨va,vc,hv⟩:=Ec hrow;exact ami v t W ⟨_,_,_,hv⟩ H hbt (by have:=I.bt;omega)
end
end bg
end
end Go.Proofs.YtjolccidheflpaaGreatDoor
