/- A region that draws its order, by a table of what each operation makes. -/
import Derived.Test.YtjolccidheflpaaGreatDoorX37
import Derived.Great.Frames
namespace Go.Proofs.YtjolccidheflpaaGreatDoor
open Go.Proofs.Tryz
set_option maxHeartbeats 8000000
set_option maxRecDepth 100000
open Go.RowKit
namespace bg
abbrev iO:Type:=Value->World->Prop
def dep(o:Oper)(j:Nat):Bool:=o.after.any fun e=>Region.binds .any e&&(e.on==j)
def ky(ops:List Oper)(N:Nat)(bs tb:List (Nat×iO))(o:Oper)(x:Nat×iO):Prop :=
 ∀(a:Act) (w:World),N<=w.heap.size->(∀y∈bs,y.2 (a.eval (.tmp y.1)) w)->(∀j y,tb[j]?=some y->dep o j=true->y.2 (a.eval (.tmp y.1)) w) ->
  Region.wanted o (yielded ops.toArray a.tmps)=true/\aB prog (fun v w'=>Ext (fun b=>N<=b) w w'/\Below N w w'/\x.2 (if o.dst=none then a.eval (.tmp x.1) else v) w') ((execOp a.eval o).run prog w)
def PQ(ops:List Oper)(N:Nat)(bs tb:List (Nat×iO)):List Oper->List (Nat×iO)->Prop
 | o::l,x::t=>ky ops N bs tb o x/\PQ ops N bs tb l t
 | _,_=>True
theorem ZS{ops:List Oper}{N:Nat}{bs tb:List (Nat×iO)}:∀{l:List Oper} {t:List (Nat×iO)},PQ ops N bs tb l t->∀{i:Nat} {o:Oper} {x:Nat×iO},l[i]?=some o->t[i]?=some x->ky ops N bs tb o x
 | [],_,_,i,_,_,h1,_=>by simp at h1
 | _::_,[],_,i,_,_,_,h2=>by simp at h2
 | o::l,x::t,h,0,_,_,h1,h2=>by cases h1;cases h2;exact h.1
 | o::l,x::t,h,i+1,_,_,h1,h2=>ZS h.2 (by simpa using h1) (by simpa using h2)
def ZT(l:List Oper)(yV:Nat)(bs tb:List Nat):Bool :=
 tb.length==l.length&&(List.range l.length).all fun i=>match l[i]?,tb[i]? with
  | some o,some s=>(match o.dst with
   | some d=>d==s&&decide (d<yV)&&!bs.contains d&&((List.range l.length).all fun j=>match l[j]?,tb[j]? with | some oj,some anL=>j==i || dep oj i || !(anL==d) | _,_=>true)
   | none=>true)
  | _,_=>true
theorem Y6{id:Nat}{Q:Exit->Act->World->Prop}{a:Act}{w W:World}{l:List Oper}(yV:Nat)(bs tb:List (Nat×iO))(hd:JC l=true)(hc:ZT l yV (bs.map (·.1)) (tb.map (·.1))=true)(hmono:∀x∈bs++tb,∀v w w',x.2 v w->Ext (fun b=>W.heap.size<=b) w w'->x.2 v w')(hW:U W w)(hsz:a.tmps.size=yV/\a.defers=[])(hb0:∀x∈bs,x.2 (a.eval (.tmp x.1)) w)(hop:PQ l W.heap.size bs tb l tb)(hend:∀a w,U W w->(a.tmps.size=yV/\a.defers=[])->(∀x∈bs++tb,x.2 (a.eval (.tmp x.1)) w)->Q .normal a w):(Code.region id l.toArray true).wp prog Q a w:=by
 unfold ZT at hc;rw[bEq]at hc;obtain⟨hlen,hc⟩:=hc;have mg:tb.length=l.length:=by simpa using hlen
 have hdr:U w { w with drawn:=w.drawn+1 }:=⟨rfl,rfl,rfl,E _,fun _ _=>rfl⟩;refine ac3 (fun i a w=>∀x,tb[i]?=some x->x.2 (a.eval (.tmp x.1)) w) (fun a w=>U W w/\(a.tmps.size=yV/\a.defers=[])/\∀x∈bs,x.2 (a.eval (.tmp x.1)) w) (by kernel_rfl) hd ⟨ar hW hdr,hsz,fun x hx=>hmono x (List.mem_append_left _ hx) _ _ _ (hb0 x hx) (Ext.of_below hdr)⟩ ?_ (fun a w hB hR=>hend a w hB.1 hB.2.1 fun x hx=>?_)
 .intro i o a w ho hB eH
  have hi:i<l.length:=(List.getElem?_eq_some_iff.1 ho).1;obtain⟨x,hx⟩:∃x,tb[i]?=some x:=⟨_,List.getElem?_eq_getElem (by omega)⟩;obtain⟨h1,h2⟩:=ZS hop ho hx a w hB.1.size hB.2.2 (fun j y hy PR=>eH j PR y hy);refine⟨h1,nk (fun v w' h3=>?_) h2⟩;obtain⟨hE,hBl,hp⟩:=h3;have hci:=List.all_eq_true.1 hc i (by simpa using hi);rw[ho,List.getElem?_map,hx]at hci;simp only[Option.map_some]at hci;have IV:=hB.1.trans hBl;cases ZU:o.dst with
  | none =>
   rw[ZU]at hp;refine⟨⟨IV,hB.2.1,fun y hy=>hmono y (List.mem_append_left _ hy) _ _ _ (hB.2.2 y hy) hE⟩,fun y hy=>?_,fun j oj _ _ _ hR y hy=>hmono y (List.mem_append_right _ (List.mem_of_getElem? hy)) _ _ _ (hR y hy) hE⟩;rw[hx]at hy;cases hy;exact hp
  | some d =>
   rw[ZU]at hp hci;simp only[Bool.and_eq_true,beq_iff_eq,decide_eq_true_eq,Bool.not_eq_true']at hci;obtain⟨⟨⟨yM,sI⟩,ZV⟩,PR⟩:=hci;have hsz':(a.put (some d) v).tmps.size=yV/\(a.put (some d) v).defers=[]:=⟨by rw[<- hB.2.1.1];simp[Act.put],hB.2.1.2⟩;refine⟨⟨IV,hsz',fun y hy=>?_⟩,fun y hy=>?_,fun j oj hoj bC PS hR y hy=>?_⟩
   .have:d≠y.1:=fun e=>by
     have h5:(bs.map (·.1)).contains d=true:=by simpa using ⟨y.2,by rw[e];exact hy⟩
     rw[h5]at ZV;cases ZV
    rw[Act.eval_put_ne a d y.1 v this];exact hmono y (List.mem_append_left _ hy) _ _ _ (hB.2.2 y hy) hE
   .rw[hx]at hy
    cases hy;rw[<- yM,Act.eval_put_same a d v (by rw[hB.2.1.1];exact sI)];exact hp
   .have h5:=List.all_eq_true.1 PR j (by simpa using(List.getElem?_eq_some_iff.1 hoj).1)
    rw[hoj,List.getElem?_map,hy]at h5;simp only[Option.map_some,Bool.or_eq_true,beq_iff_eq,Bool.not_eq_true',beq_eq_false_iff_ne]at h5;have hne:d≠y.1:=by
     rcases h5 with (h5 | h5) | h5
     .exact absurd h5 bC
     .have h6:dep oj i=false:=PS
      rw[h6]at h5;cases h5
     .exact fun e=>h5 e.symm
    rw[Act.eval_put_ne a d y.1 v hne];exact hmono y (List.mem_append_right _ (List.mem_of_getElem? hy)) _ _ _ (hR y hy) hE
 .rcases List.mem_append.1 hx with hx | hx
  .exact hB.2.2 x hx
  .obtain⟨i,hi⟩:=List.getElem?_of_mem hx
   exact hR i (by rw[<- mg];exact(List.getElem?_eq_some_iff.1 hi).1) x hi
end bg
namespace bg
def qY(s:Int×Int):iO:=fun v w=>∃b,v=Rw b/\w.heap[b]?=some (.cells #[Z s.1,Z s.2] 216 (0,0))
def eC(s:Int×Int):Value:=.agg #[Z s.1,Z s.2]
def h9(u:Value):iO:=fun v _=>v=u
abbrev bh(N:Nat):Nat->Prop:=fun b=>N<=b
def yI(N:Nat):iO:=fun v w=>∃M,v=.map (some M)/\N<=M/\AQ (bh N) M w
def kY(k:ByteArray):iO:=fun v w=>∃M,v=.map (some M)/\wH M k w
def yJ(N:Nat):iO:=fun v w=>∃M,v=.map (some M)/\N<=M/\AQ (bh N) M w/\∀x∈cmds,wH M x.1 w
def o5:List (Nat×iO):=[(1,qY num),(2,qY cZ),(3,qY eG),(4,qY gy),(5,qY gy)]
def D4(N:Nat):List (Nat×iO):=[(14,h9 (eC cZ)),(15,d_ (bh N) [cZ]),(16,h9 (eC eG)),(17,d_ (bh N) [eG]),(18,h9 (eC cZ)),(19,h9 (eC eG)),(20,h9 (eC num)),(21,h9 (eC gy)),(22,h9 (eC gy)),(23,d_ (bh N) [cZ,eG,num,gy,gy]),(6,d_ (bh N) [cZ]),(7,d_ (bh N) [eG]),(8,d_ (bh N) [cZ,eG,num,gy,gy])]
theorem Y0{S:Nat->Prop}(s:Int×Int):∀v w w',qY s v w->Ext S w w'->qY s v w':=fun _ _ _ ⟨b,h1,h2⟩ hE=>⟨b,h1,hE.D5 h2⟩
theorem Y1{S:Nat->Prop}(u:Value):∀v w w',h9 u v w->Ext S w w'->h9 u v w':=fun _ _ _ h _=>h
theorem Y2(N:Nat)(l:List (Int×Int)):∀v w w',d_ (bh N) l v w->Ext (bh N) w w'->d_ (bh N) l v w':=fun _ _ _ h hE=>h.mono (fun hs x=>⟨hs,hE.D5 x⟩)
theorem Y3(N:Nat)(k:Nat):∀v w w',j0 (bh N) k v w->Ext (bh N) w w'->j0 (bh N) k v w':=fun _ _ _ h hE=>h.mono (fun hs x=>⟨hs,hE.D5 x⟩)
theorem alF(N:Nat)(k:Nat):∀v w w',jd (bh N) k v w->Ext (bh N) w w'->jd (bh N) k v w':=fun _ _ _ h hE=>h.mono (fun hs x=>⟨hs,hE.D5 x⟩)
theorem alG(N:Nat)(k:ByteArray):∀v w w',gz (bh N) k v w->Ext (bh N) w w'->gz (bh N) k v w':=fun _ _ _ h hE=>h.mono (fun hs x=>⟨hs,hE.D5 x⟩)
theorem alH(N:Nat):∀v w w',yI N v w->Ext (bh N) w w'->yI N v w':=fun _ _ _ ⟨M,h1,h2,h3⟩ hE=>⟨M,h1,h2,hE.good h3⟩
theorem alI{S:Nat->Prop}(k:ByteArray):∀v w w',kY k v w->Ext S w w'->kY k v w':=fun _ _ _ ⟨M,h1,h2⟩ hE=>⟨M,h1,hE.has h2⟩
theorem alJ(N:Nat):∀v w w',yJ N v w->Ext (bh N) w w'->yJ N v w':=fun _ _ _ ⟨M,h1,h2,h3,h4⟩ hE=>⟨M,h1,h2,hE.good h3,fun x hx=>hE.has (h4 x hx)⟩
theorem sy{w:World}{N:Nat}{p:iO}{v:Value}(h:p v w):Ext (bh N) w w/\Below N w w/\p v w:=⟨Ext.of_below (bRq _ _),bRq _ _,h⟩
theorem wI{w:World}{N:Nat}{p:iO}{v:Value}{o:Obj}(hN:N<=w.heap.size)(h:p v (w.alloc o)):Ext (bh N) w (w.alloc o)/\Below N w (w.alloc o)/\p v (w.alloc o) :=
 ⟨Ext.of_below aj,(bRq _ _).alloc hN _,h⟩
section
variable {l:List Oper} {N:Nat} {bs tb:List (Nat×iO)} {o:Oper} {s:Nat} {p:iO}
theorem qZ{t:Nat}{x:Int×Int}(hd:o.dst=some s)(hop:o.op=.load 216 (.tmp t))(hg:o.guard=none)(ht:(t,qY x)∈bs)(hp:p=h9 (eC x)):ky l N bs tb o (s,p):=by intro a w hN hb _;obtain⟨b,e1,e2⟩:=hb _ ht;simp only[]at e1;have c0:=ag e2 0 rfl;have c1:=ag e2 1 rfl;refine⟨by simp[Region.wanted,hg],?_⟩;rw[hd,hp];simp only[execOp,hop,e1];unfold aB;go_simp;exact sy (p:=h9 (eC x)) rfl
def At(bs tb:List (Nat×iO))(o:Oper)(t:Nat)(q:iO):Prop:=(t,q)∈bs\/∃j,tb[j]?=some (t,q)/\dep o j=true
theorem At.get{t:Nat}{q:iO}(h:At bs tb o t q){a:Act}{w:World}(hb:∀y∈bs,y.2 (a.eval (.tmp y.1)) w)(hd:∀j y,tb[j]?=some y->dep o j=true->y.2 (a.eval (.tmp y.1)) w):q (a.tmps[t]?.getD undef) w:=by
 have e:a.eval (.tmp t)=a.tmps[t]?.getD undef:=Array.getD_eq_getD_getElem?;rw[<- e];rcases h with h | ⟨j,h1,h2⟩
 .exact hb _ h
 .exact hd j _ h1 h2
theorem o6{t:Nat}(hd:o.dst=some s)(hop:o.op=.move (.tmp t)\/o.op=.assign (.tmp t))(hg:o.guard=none)(ht:At bs tb o t p):ky l N bs tb o (s,p):=by
 intro a w hN hb eH;have h:=ht.get hb eH;refine⟨by simp[Region.wanted,hg],?_⟩;rw[hd];rcases hop with hop | hop
 .simp only[execOp,hop]
  unfold aB;go_simp;exact sy h
 .simp only[execOp,hop]
  unfold aB;go_simp;exact sy h
theorem Ic{t:Nat}{x:Int×Int}(hd:o.dst=some s)(hop:o.op=.buildSlice 217 1 #[(0,.tmp t)])(hg:o.guard=none)(ht:At bs tb o t (h9 (eC x))):ky l N bs tb o (s,d_ (bh N) [x]):=by intro a w hN hb eH;have h:a.tmps[t]?.getD undef=eC x:=ht.get hb eH;unfold eC at h;refine⟨by simp[Region.wanted,hg],?_⟩;rw[hd];simp only[execOp,hop];unfold aB;go_simp;exact wI hN (p:=d_ (bh N) [x]) (.inr ⟨w.heap.size,hN,rfl,hNq _ _⟩)
theorem alK{t1 t2 t3:Nat}{x y z:Int×Int}(hd:o.dst=some s)(hop:o.op=.buildSlice 217 3 #[(0,.tmp t1),(1,.tmp t2),(2,.tmp t3)])(hg:o.guard=none)(h1:At bs tb o t1 (h9 (eC x)))(h2:At bs tb o t2 (h9 (eC y)))(h3:At bs tb o t3 (h9 (eC z))):ky l N bs tb o (s,d_ (bh N) [x,y,z]):=by intro a w hN hb eH;have e1:a.tmps[t1]?.getD undef=eC x:=h1.get hb eH;have e2:a.tmps[t2]?.getD undef=eC y:=h2.get hb eH;have e3:a.tmps[t3]?.getD undef=eC z:=h3.get hb eH;unfold eC at e1 e2 e3;refine⟨by simp[Region.wanted,hg],?_⟩;rw[hd];simp only[execOp,hop];unfold aB;go_simp;exact wI hN (p:=d_ (bh N) [x,y,z]) (.inr ⟨w.heap.size,hN,rfl,hNq _ _⟩)
theorem alL{t1 t2 t3 t4 t5:Nat}{x y z u r:Int×Int}(hd:o.dst=some s)(hop:o.op=.buildSlice 217 5 #[(0,.tmp t1),(1,.tmp t2),(2,.tmp t3),(3,.tmp t4),(4,.tmp t5)])(hg:o.guard=none)(h1:At bs tb o t1 (h9 (eC x)))(h2:At bs tb o t2 (h9 (eC y)))(h3:At bs tb o t3 (h9 (eC z)))(h4:At bs tb o t4 (h9 (eC u)))(h5:At bs tb o t5 (h9 (eC r))):ky l N bs tb o (s,d_ (bh N) [x,y,z,u,r]):=by intro a w hN hb eH;have e1:a.tmps[t1]?.getD undef=eC x:=h1.get hb eH;have e2:a.tmps[t2]?.getD undef=eC y:=h2.get hb eH;have e3:a.tmps[t3]?.getD undef=eC z:=h3.get hb eH;have e4:a.tmps[t4]?.getD undef=eC u:=h4.get hb eH;have e5:a.tmps[t5]?.getD undef=eC r:=h5.get hb eH;unfold eC at e1 e2 e3 e4 e5;refine⟨by simp[Region.wanted,hg],?_⟩;rw[hd];simp only[execOp,hop];unfold aB;go_simp;exact wI hN (p:=d_ (bh N) [x,y,z,u,r]) (.inr ⟨w.heap.size,hN,rfl,hNq _ _⟩)
theorem alM(hd:o.dst=some s)(hop:o.op=.makeMap 150 none)(hg:o.guard=none):ky l N bs tb o (s,yI N):=by intro a w hN hb eH;refine⟨by simp[Region.wanted,hg],?_⟩;rw[hd];simp only[execOp,hop];unfold aB;go_simp;exact wI hN (p:=yI N) ⟨w.heap.size,rfl,hN,#[],0,hNq _ _,by simp⟩
theorem O3{c:Nat}(hc:c=108\/c=104\/c=113)(hd:o.dst=some s)(hop:o.op=.call { callee:=.value (.func 119),args:=#[.const (.int .u8 c)],argTypes:=#[5] })(hg:o.guard=none):ky l N bs tb o (s,j0 (bh N) c):=by intro a w hN hb eH;refine⟨by simp[Region.wanted,hg],?_⟩;rw[hd];simp only[execOp,hop];unfold aB;go_simp;refine(alD c w).mono ?_;rintro e w' ⟨rfl,rfl⟩;exact⟨_,rfl,wI hN (p:=j0 (bh N) c) (.inr (.inr ⟨hc,w.heap.size,hN,rfl,hNq _ _⟩))⟩
theorem Y4{c:Nat}(hc:c<2)(hd:o.dst=some s)(hop:o.op=.call { callee:=.value (.func 120),args:=#[.const (Z c)],argTypes:=#[3] })(hg:o.guard=none):ky l N bs tb o (s,j0 (bh N) c):=by intro a w hN hb eH;refine⟨by simp[Region.wanted,hg],?_⟩;rw[hd];simp only[execOp,hop];unfold aB;go_simp;refine(alE c w).mono ?_;rintro e w' ⟨rfl,rfl⟩;exact⟨_,rfl,wI hN (p:=j0 (bh N) c) (.inl ⟨hc,w.heap.size,hN,rfl,hNq _ _⟩)⟩
theorem j0.form{S:Nat->Prop}{c:Nat}{u:Value}{w:World}(h:j0 S c u w):c<114/\∃f cs,u=.func f #[] cs:=by
 rcases h with ⟨h1,b,_,h2,_⟩ | ⟨h1,h2⟩ | ⟨h1,b,_,h2,_⟩
 .exact⟨by omega,_,_,h2⟩
 .exact⟨by omega,_,_,h2⟩
 .exact⟨by omega,_,_,h2⟩
theorem D6{t c:Nat}(hd:o.dst=some s)(hop:o.op=.call { callee:=.value (.func 118),args:=#[.tmp t],argTypes:=#[220] })(hg:o.guard=none)(ht:At bs tb o t (j0 (bh N) c)):ky l N bs tb o (s,jd (bh N) c):=by intro a w hN hb eH;have h:=ht.get hb eH;refine⟨by simp[Region.wanted,hg],?_⟩;rw[hd];obtain⟨hc,f,cs,e⟩:=h.form;rw[e]at h;simp only[execOp,hop];unfold aB;go_simp;refine(YZ f cs w).mono ?_;rintro e w' ⟨rfl,rfl⟩;exact⟨_,rfl,wI hN (p:=jd (bh N) c) (.inl ⟨hc,w.heap.size,_,hN,rfl,hNq _ _,Y3 N c _ _ _ h (Ext.of_below aj)⟩)⟩
theorem alN(hd:o.dst=some s)(hop:o.op=.call { callee:=.value (.func 118),args:=#[.func 121],argTypes:=#[220] })(hg:o.guard=none):ky l N bs tb o (s,jd (bh N) 99):=by intro a w hN hb eH;refine⟨by simp[Region.wanted,hg],?_⟩;rw[hd];simp only[execOp,hop];unfold aB;go_simp;refine(YZ (.func 121) #[] w).mono ?_;rintro e w' ⟨rfl,rfl⟩;exact⟨_,rfl,wI hN (p:=jd (bh N) 99) (.inl ⟨by decide,w.heap.size,_,hN,rfl,hNq _ _,.inr (.inl ⟨rfl,rfl⟩)⟩)⟩
theorem jd.form{S:Nat->Prop}{c:Nat}{u:Value}{w:World}(h:jd S c u w):∃f cs,u=.func f #[] cs:=by
 rcases h with ⟨_,b,u,_,h2,_⟩ | ⟨_,h2⟩
 .exact⟨_,_,h2⟩
 .exact⟨_,_,h2⟩
theorem AR{t1 t2:Nat}{n:ByteArray}{c:mW}(hn:tab n=some c)(htx:c.bD=false)(hsp:c.sp≠[])(hd:o.dst=some s)(hop:o.op=.build 223 #[(0,.tmp t1),(2,.tmp t2)])(hg:o.guard=none)(h1:At bs tb o t1 (d_ (bh N) c.sp))(h2:At bs tb o t2 (jd (bh N) c.d)):ky l N bs tb o (s,gz (bh N) n):=by
 intro a w hN hb eH;have g1:=h1.get hb eH;have g2:=h2.get hb eH;refine⟨by simp[Region.wanted,hg],?_⟩;rw[hd];obtain⟨f,cs,e2⟩:=g2.form;rcases g1 with ⟨e,_⟩ | ⟨b,e0,e1,e3⟩
 .exact absurd e hsp
 rw[e2]at g2;simp only[execOp,hop];unfold aB;go_simp;exact sy (p:=gz (bh N) n) ⟨c,hn,_,_,by rw[htx],.inr ⟨b,e0,rfl,e3⟩,g2⟩
theorem D7{t1 d:Nat}{n:ByteArray}{c:mW}(hn:tab n=some c)(htx:c.bD=false)(hsp:c.sp≠[])(hcd:c.d=d)(r8:114<=d)(hd:o.dst=some s)(hop:o.op=.build 223 #[(0,.tmp t1),(2,.func d)])(hg:o.guard=none)(h1:At bs tb o t1 (d_ (bh N) c.sp)):ky l N bs tb o (s,gz (bh N) n):=by
 intro a w hN hb eH;have g1:=h1.get hb eH;refine⟨by simp[Region.wanted,hg],?_⟩;rw[hd];rcases g1 with ⟨e,_⟩ | ⟨b,e0,e1,e3⟩
 .exact absurd e hsp
 simp only[execOp,hop];unfold aB;go_simp;exact sy (p:=gz (bh N) n) ⟨c,hn,_,_,by rw[htx],.inr ⟨b,e0,rfl,e3⟩,.inr ⟨by rw[hcd];exact r8,by rw[hcd]⟩⟩
theorem alO{t1 d:Nat}{n:ByteArray}{c:mW}(hn:tab n=some c)(htx:c.bD=true)(hsp:c.sp≠[])(hcd:c.d=d)(r8:114<=d)(hd:o.dst=some s)(hop:o.op=.build 223 #[(0,.tmp t1),(1,.const (.bool true)),(2,.func d)])(hg:o.guard=none)(h1:At bs tb o t1 (d_ (bh N) c.sp)):ky l N bs tb o (s,gz (bh N) n):=by
 intro a w hN hb eH;have g1:=h1.get hb eH;refine⟨by simp[Region.wanted,hg],?_⟩;rw[hd];rcases g1 with ⟨e,_⟩ | ⟨b,e0,e1,e3⟩
 .exact absurd e hsp
 simp only[execOp,hop];unfold aB;go_simp;exact sy (p:=gz (bh N) n) ⟨c,hn,_,_,by rw[htx],.inr ⟨b,e0,rfl,e3⟩,.inr ⟨by rw[hcd];exact r8,by rw[hcd]⟩⟩
theorem Y5{d:Nat}{n:ByteArray}{c:mW}(hn:tab n=some c)(htx:c.bD=false)(hsp:c.sp=[])(hcd:c.d=d)(r8:114<=d)(hd:o.dst=some s)(hop:o.op=.build 223 #[(2,.func d)])(hg:o.guard=none):ky l N bs tb o (s,gz (bh N) n):=by intro a w hN hb eH;refine⟨by simp[Region.wanted,hg],?_⟩;rw[hd];simp only[execOp,hop];unfold aB;go_simp;exact sy (p:=gz (bh N) n) ⟨c,hn,_,_,by rw[htx],.inl ⟨hsp,rfl⟩,.inr ⟨by rw[hcd];exact r8,by rw[hcd]⟩⟩
theorem nQ{t1 t2:Nat}{n:ByteArray}(hd:o.dst=none)(hop:o.op=.insert 150 (.tmp t1) (.const (.string n)) (.tmp t2))(hg:o.guard=none)(h1:At bs tb o t1 (yI N))(h2:At bs tb o t2 (gz (bh N) n))(hs:t1=s):ky l N bs tb o (s,kY n):=by intro a w hN hb eH;subst hs;have g1:=h1.get hb eH;have g2:=h2.get hb eH;refine⟨by simp[Region.wanted,hg],?_⟩;have e:a.eval (.tmp t1)=a.tmps[t1]?.getD undef:=Array.getD_eq_getD_getElem?;rw[hd];simp only[reduceIte,e];obtain⟨M,e1,e2,e3⟩:=g1;obtain⟨v,hv⟩:=aG (a.tmps[t2]?.getD undef);rw[hv]at g2;obtain⟨w',hr,hE,hH,hB⟩:=alP e3 g2;simp only[execOp,hop];unfold aB;go_simp;exact⟨M,rfl,hH⟩
theorem alQ{x y:Int}(hd:o.dst=some s)(hop:o.op=.build 216 #[(0,.const (Z x)),(1,.const (Z y))])(hg:o.guard=none):ky l N bs tb o (s,h9 (eC (x,y))):=by intro a w hN hb eH;refine⟨by simp[Region.wanted,hg],?_⟩;rw[hd];simp only[execOp,hop];unfold aB;go_simp;exact sy (p:=h9 (eC (x,y))) rfl
theorem alR{t:Nat}(hd:o.dst=some s)(hop:o.op=.move (.tmp t))(hg:o.guard=none)(h1:At bs tb o t (yI N))(h2:∀x∈cmds,At bs tb o t (kY x.1)):ky l N bs tb o (s,yJ N):=by
 intro a w hN hb eH;obtain⟨M,e1,e2,e3⟩:=h1.get hb eH;have hk:∀x∈cmds,wH M x.1 w:=fun x hx=>by
  obtain⟨M2,e4,e5⟩:=(h2 x hx).get hb eH;rw[e1]at e4;cases e4;exact e5
 refine⟨by simp[Region.wanted,hg],?_⟩;rw[hd];have HH:yJ N (.map (some M)) w:=⟨M,rfl,e2,e3,hk⟩;simp only[execOp,hop];unfold aB;go_simp;exact⟨(sy (N:=N) HH).1,(sy HH).2.1⟩
end
def kz(N:Nat):List (Nat×iO):=[(1,qY num),(2,qY cZ),(3,qY eG),(6,d_ (bh N) [cZ]),(7,d_ (bh N) [eG]),(8,d_ (bh N) [cZ,eG,num,gy,gy])]
def Ie(N:Nat):List (Nat×iO):=[(24,yI N),(25,d_ (bh N) [cZ]),(26,j0 (bh N) 108),(27,jd (bh N) 108),(28,gz (bh N) ⟨#[108,111,103,105,110]⟩),(24,kY ⟨#[108,111,103,105,110]⟩),(29,d_ (bh N) [cZ]),(30,j0 (bh N) 104),(31,jd (bh N) 104),(32,gz (bh N) ⟨#[98,101,97,116]⟩),(24,kY ⟨#[98,101,97,116]⟩),(33,d_ (bh N) [cZ]),(34,j0 (bh N) 113),(35,jd (bh N) 113),(36,gz (bh N) ⟨#[108,111,103,111,117,116]⟩),(24,kY ⟨#[108,111,103,111,117,116]⟩),(37,d_ (bh N) [cZ,eG,num,gy,gy]),(38,j0 (bh N) 0),(39,jd (bh N) 0),(40,gz (bh N) ⟨#[98,117,121]⟩),(24,kY ⟨#[98,117,121]⟩),(41,d_ (bh N) [cZ,eG,num,gy,gy]),(42,j0 (bh N) 1),(43,jd (bh N) 1),(44,gz (bh N) ⟨#[115,101,108,108]⟩),(24,kY ⟨#[115,101,108,108]⟩),(45,h9 (eC cZ)),(46,h9 (eC eG)),(47,h9 (eC num)),(48,d_ (bh N) [cZ,eG,num]),(49,jd (bh N) 99),(50,gz (bh N) ⟨#[99,97,110,99,101,108]⟩),(24,kY ⟨#[99,97,110,99,101,108]⟩),(51,h9 (eC (1,50))),(52,d_ (bh N) [(1,50)]),(53,gz (bh N) ⟨#[116,105,99,107]⟩),(24,kY ⟨#[116,105,99,107]⟩),(54,d_ (bh N) [cZ]),(55,gz (bh N) ⟨#[98,121,116,101,115]⟩),(24,kY ⟨#[98,121,116,101,115]⟩),(56,d_ (bh N) [eG]),(57,gz (bh N) ⟨#[98,111,111,107]⟩),(24,kY ⟨#[98,111,111,107]⟩),(58,d_ (bh N) [eG]),(59,gz (bh N) ⟨#[98,97,110,100]⟩),(24,kY ⟨#[98,97,110,100]⟩),(60,d_ (bh N) [cZ]),(61,gz (bh N) ⟨#[104,97,115]⟩),(24,kY ⟨#[104,97,115]⟩),(62,h9 (eC num)),(63,d_ (bh N) [num]),(64,gz (bh N) ⟨#[99,117,116]⟩),(24,kY ⟨#[99,117,116]⟩),(65,gz (bh N) ⟨#[97,103,97,105,110]⟩),(24,kY ⟨#[97,103,97,105,110]⟩),(66,gz (bh N) ⟨#[98,97,116,99,104,101,115]⟩),(24,kY ⟨#[98,97,116,99,104,101,115]⟩),(67,yJ N),(0,yJ N)]
theorem D8{w:World}{o:Obj}{n:Nat}(h:w.heap.size=n):(w.alloc o).heap[n]?=some o:=by rw[<- h];exact hNq _ _
theorem sA{w:World}{o p:Obj}{n:Nat}(h:w.heap[n]?=some p):(w.alloc o).heap[n]?=some p:=(Below.heap_alloc _ _ _ (lt_of_some h)).trans h
theorem alS(N:Nat):∀x∈o5++D4 N,∀v w w',x.2 v w->Ext (bh N) w w'->x.2 v w':=by intro x hx;simp only[o5,D4,List.cons_append,List.nil_append,List.mem_cons,List.not_mem_nil,or_false]at hx;rcases hx with rfl | rfl | rfl | rfl | rfl | rfl | rfl | rfl | rfl | rfl | rfl | rfl | rfl | rfl | rfl | rfl | rfl | rfl <;> first | exact Y0 _ | exact Y1 _ | exact Y2 _ _
theorem alT(N:Nat):∀x∈kz N++Ie N,∀v w w',x.2 v w->Ext (bh N) w w'->x.2 v w':=by intro x hx;simp only[kz,Ie,List.cons_append,List.nil_append,List.mem_cons,List.not_mem_nil,or_false]at hx;rcases hx with rfl | rfl | rfl | rfl | rfl | rfl | rfl | rfl | rfl | rfl | rfl | rfl | rfl | rfl | rfl | rfl | rfl | rfl | rfl | rfl | rfl | rfl | rfl | rfl | rfl | rfl | rfl | rfl | rfl | rfl | rfl | rfl | rfl | rfl | rfl | rfl | rfl | rfl | rfl | rfl | rfl | rfl | rfl | rfl | rfl | rfl | rfl | rfl | rfl | rfl | rfl | rfl | rfl | rfl | rfl | rfl | rfl | rfl | rfl | rfl | rfl | rfl | rfl | rfl | rfl <;> first | exact Y0 _ | exact Y1 _ | exact Y2 _ _ | exact Y3 _ _ | exact alF _ _ | exact alG _ _ | exact alH _ | exact alI _ | exact alJ _
structure yK (S:Nat->Prop) (M:Nat) (w:World):Prop where
 good:AQ S M w
 has:∀x∈cmds,wH M x.1 w
theorem alU(W:World):Calls prog 72 #[] W fun e w'=>∃M,e=.returned (.map (some M))/\W.heap.size<=M/\yK (bh W.heap.size) M w'/\U W w':=by
 go_enter func72,ntmps72;go_wp2;refine Y6 (W:=W) 68 o5 (D4 W.heap.size) (by kernel_rfl) (by kernel_rfl) (alS _) ?_ ⟨rfl,rfl⟩ ?_ ⟨qZ (x:=cZ) rfl rfl rfl (by simp[o5]) rfl,
  Ic rfl rfl rfl (.inr ⟨0,rfl,by kernel_rfl⟩),
  qZ (x:=eG) rfl rfl rfl (by simp[o5]) rfl,
  Ic rfl rfl rfl (.inr ⟨2,rfl,by kernel_rfl⟩),
  qZ (x:=cZ) rfl rfl rfl (by simp[o5]) rfl,
  qZ (x:=eG) rfl rfl rfl (by simp[o5]) rfl,
  qZ (x:=num) rfl rfl rfl (by simp[o5]) rfl,
  qZ (x:=gy) rfl rfl rfl (by simp[o5]) rfl,
  qZ (x:=gy) rfl rfl rfl (by simp[o5]) rfl,
  alL rfl rfl rfl (.inr ⟨4,rfl,by kernel_rfl⟩) (.inr ⟨5,rfl,by kernel_rfl⟩) (.inr ⟨6,rfl,by kernel_rfl⟩) (.inr ⟨7,rfl,by kernel_rfl⟩) (.inr ⟨8,rfl,by kernel_rfl⟩),
  o6 rfl (.inr rfl) rfl (.inr ⟨1,rfl,by kernel_rfl⟩),
  o6 rfl (.inr rfl) rfl (.inr ⟨3,rfl,by kernel_rfl⟩),
  o6 rfl (.inr rfl) rfl (.inr ⟨9,rfl,by kernel_rfl⟩),trivial⟩ ?_
 .repeat (refine Below.alloc ?_ (by simp <;> omega) _)
  exact bRq _ _
 .intro x hx
  simp only[o5,List.mem_cons,List.not_mem_nil,or_false]at hx;rcases hx with rfl | rfl | rfl | rfl | rfl <;> (refine⟨_,rfl,?_⟩;repeat (first | (refine D8 ?_;simp;done) | refine sA ?_))
 intro a w hB hsz hall;have hmem:∀x∈kz W.heap.size,x∈o5++D4 W.heap.size:=fun x hx=>by
  simp only[kz,List.mem_cons,List.not_mem_nil,or_false]at hx;rcases hx with rfl | rfl | rfl | rfl | rfl | rfl <;> simp[o5,D4]
 have kT:∀x∈kz W.heap.size,x.2 (a.eval (.tmp x.1)) w:=fun x hx=>hall x (hmem x hx);clear hall hmem;go_wp2;refine Y6 (W:=W) 68 (kz W.heap.size) (Ie W.heap.size) (by kernel_rfl) (by kernel_rfl) (alT _) hB hsz kT ⟨alM rfl rfl rfl,
  o6 rfl (.inl rfl) rfl (.inl (by simp[kz])),
  O3 (c:=108) (by decide) rfl rfl rfl,
  D6 rfl rfl rfl (.inr ⟨2,rfl,by kernel_rfl⟩),
  AR (c:=⟨[cZ],false,108⟩) (by kernel_rfl) rfl (by simp) rfl rfl rfl (.inr ⟨1,rfl,by kernel_rfl⟩) (.inr ⟨3,rfl,by kernel_rfl⟩),
  nQ rfl rfl rfl (.inr ⟨0,rfl,by kernel_rfl⟩) (.inr ⟨4,rfl,by kernel_rfl⟩) rfl,
  o6 rfl (.inl rfl) rfl (.inl (by simp[kz])),
  O3 (c:=104) (by decide) rfl rfl rfl,
  D6 rfl rfl rfl (.inr ⟨7,rfl,by kernel_rfl⟩),
  AR (c:=⟨[cZ],false,104⟩) (by kernel_rfl) rfl (by simp) rfl rfl rfl (.inr ⟨6,rfl,by kernel_rfl⟩) (.inr ⟨8,rfl,by kernel_rfl⟩),
  nQ rfl rfl rfl (.inr ⟨0,rfl,by kernel_rfl⟩) (.inr ⟨9,rfl,by kernel_rfl⟩) rfl,
  o6 rfl (.inl rfl) rfl (.inl (by simp[kz])),
  O3 (c:=113) (by decide) rfl rfl rfl,
  D6 rfl rfl rfl (.inr ⟨12,rfl,by kernel_rfl⟩),
  AR (c:=⟨[cZ],false,113⟩) (by kernel_rfl) rfl (by simp) rfl rfl rfl (.inr ⟨11,rfl,by kernel_rfl⟩) (.inr ⟨13,rfl,by kernel_rfl⟩),
  nQ rfl rfl rfl (.inr ⟨0,rfl,by kernel_rfl⟩) (.inr ⟨14,rfl,by kernel_rfl⟩) rfl,
  o6 rfl (.inl rfl) rfl (.inl (by simp[kz])),
  Y4 (c:=0) (by decide) rfl rfl rfl,
  D6 rfl rfl rfl (.inr ⟨17,rfl,by kernel_rfl⟩),
  AR (c:=⟨[cZ,eG,num,gy,gy],false,0⟩) (by kernel_rfl) rfl (by simp) rfl rfl rfl (.inr ⟨16,rfl,by kernel_rfl⟩) (.inr ⟨18,rfl,by kernel_rfl⟩),
  nQ rfl rfl rfl (.inr ⟨0,rfl,by kernel_rfl⟩) (.inr ⟨19,rfl,by kernel_rfl⟩) rfl,
  o6 rfl (.inl rfl) rfl (.inl (by simp[kz])),
  Y4 (c:=1) (by decide) rfl rfl rfl,
  D6 rfl rfl rfl (.inr ⟨22,rfl,by kernel_rfl⟩),
  AR (c:=⟨[cZ,eG,num,gy,gy],false,1⟩) (by kernel_rfl) rfl (by simp) rfl rfl rfl (.inr ⟨21,rfl,by kernel_rfl⟩) (.inr ⟨23,rfl,by kernel_rfl⟩),
  nQ rfl rfl rfl (.inr ⟨0,rfl,by kernel_rfl⟩) (.inr ⟨24,rfl,by kernel_rfl⟩) rfl,
  qZ (x:=cZ) rfl rfl rfl (by simp[kz]) rfl,
  qZ (x:=eG) rfl rfl rfl (by simp[kz]) rfl,
  qZ (x:=num) rfl rfl rfl (by simp[kz]) rfl,
  alK rfl rfl rfl (.inr ⟨26,rfl,by kernel_rfl⟩) (.inr ⟨27,rfl,by kernel_rfl⟩) (.inr ⟨28,rfl,by kernel_rfl⟩),
  alN rfl rfl rfl,
  AR (c:=⟨[cZ,eG,num],false,99⟩) (by kernel_rfl) rfl (by simp) rfl rfl rfl (.inr ⟨29,rfl,by kernel_rfl⟩) (.inr ⟨30,rfl,by kernel_rfl⟩),
  nQ rfl rfl rfl (.inr ⟨0,rfl,by kernel_rfl⟩) (.inr ⟨31,rfl,by kernel_rfl⟩) rfl,
  alQ rfl rfl rfl,
  Ic rfl rfl rfl (.inr ⟨33,rfl,by kernel_rfl⟩),
  D7 (c:=⟨[(1,50)],false,122⟩) (by kernel_rfl) rfl (by simp) rfl (by decide) rfl rfl rfl (.inr ⟨34,rfl,by kernel_rfl⟩),
  nQ rfl rfl rfl (.inr ⟨0,rfl,by kernel_rfl⟩) (.inr ⟨35,rfl,by kernel_rfl⟩) rfl,
  o6 rfl (.inl rfl) rfl (.inl (by simp[kz])),
  alO (c:=⟨[cZ],true,123⟩) (by kernel_rfl) rfl (by simp) rfl (by decide) rfl rfl rfl (.inr ⟨37,rfl,by kernel_rfl⟩),
  nQ rfl rfl rfl (.inr ⟨0,rfl,by kernel_rfl⟩) (.inr ⟨38,rfl,by kernel_rfl⟩) rfl,
  o6 rfl (.inl rfl) rfl (.inl (by simp[kz])),
  D7 (c:=⟨[eG],false,124⟩) (by kernel_rfl) rfl (by simp) rfl (by decide) rfl rfl rfl (.inr ⟨40,rfl,by kernel_rfl⟩),
  nQ rfl rfl rfl (.inr ⟨0,rfl,by kernel_rfl⟩) (.inr ⟨41,rfl,by kernel_rfl⟩) rfl,
  o6 rfl (.inl rfl) rfl (.inl (by simp[kz])),
  D7 (c:=⟨[eG],false,125⟩) (by kernel_rfl) rfl (by simp) rfl (by decide) rfl rfl rfl (.inr ⟨43,rfl,by kernel_rfl⟩),
  nQ rfl rfl rfl (.inr ⟨0,rfl,by kernel_rfl⟩) (.inr ⟨44,rfl,by kernel_rfl⟩) rfl,
  o6 rfl (.inl rfl) rfl (.inl (by simp[kz])),
  D7 (c:=⟨[cZ],false,126⟩) (by kernel_rfl) rfl (by simp) rfl (by decide) rfl rfl rfl (.inr ⟨46,rfl,by kernel_rfl⟩),
  nQ rfl rfl rfl (.inr ⟨0,rfl,by kernel_rfl⟩) (.inr ⟨47,rfl,by kernel_rfl⟩) rfl,
  qZ (x:=num) rfl rfl rfl (by simp[kz]) rfl,
  Ic rfl rfl rfl (.inr ⟨49,rfl,by kernel_rfl⟩),
  D7 (c:=⟨[num],false,127⟩) (by kernel_rfl) rfl (by simp) rfl (by decide) rfl rfl rfl (.inr ⟨50,rfl,by kernel_rfl⟩),
  nQ rfl rfl rfl (.inr ⟨0,rfl,by kernel_rfl⟩) (.inr ⟨51,rfl,by kernel_rfl⟩) rfl,
  Y5 (c:=⟨[],false,128⟩) (by kernel_rfl) rfl rfl rfl (by decide) rfl rfl rfl,
  nQ rfl rfl rfl (.inr ⟨0,rfl,by kernel_rfl⟩) (.inr ⟨53,rfl,by kernel_rfl⟩) rfl,
  Y5 (c:=⟨[],false,129⟩) (by kernel_rfl) rfl rfl rfl (by decide) rfl rfl rfl,
  nQ rfl rfl rfl (.inr ⟨0,rfl,by kernel_rfl⟩) (.inr ⟨55,rfl,by kernel_rfl⟩) rfl,
  alR rfl rfl rfl (.inr ⟨0,rfl,by kernel_rfl⟩) (fun x hx=>by
  simp only[cmds,List.map_cons,List.map_nil,List.mem_cons,List.not_mem_nil,or_false]at hx;rcases hx with rfl | rfl | rfl | rfl | rfl | rfl | rfl | rfl | rfl | rfl | rfl | rfl | rfl | rfl
  .exact .inr ⟨5,rfl,by kernel_rfl⟩
  .exact .inr ⟨10,rfl,by kernel_rfl⟩
  .exact .inr ⟨15,rfl,by kernel_rfl⟩
  .exact .inr ⟨20,rfl,by kernel_rfl⟩
  .exact .inr ⟨25,rfl,by kernel_rfl⟩
  .exact .inr ⟨32,rfl,by kernel_rfl⟩
  .exact .inr ⟨36,rfl,by kernel_rfl⟩
  .exact .inr ⟨39,rfl,by kernel_rfl⟩
  .exact .inr ⟨42,rfl,by kernel_rfl⟩
  .exact .inr ⟨45,rfl,by kernel_rfl⟩
  .exact .inr ⟨48,rfl,by kernel_rfl⟩
  .exact .inr ⟨52,rfl,by kernel_rfl⟩
  .exact .inr ⟨54,rfl,by kernel_rfl⟩
  .exact .inr ⟨56,rfl,by kernel_rfl⟩),
  o6 rfl (.inr rfl) rfl (.inr ⟨57,rfl,by kernel_rfl⟩),trivial⟩ ?_
 intro a2 w2 iW alV Y7;obtain⟨M,e1,e2,e3,e4⟩:=Y7 (0,yJ W.heap.size) (by simp[Ie]);clear Y7;have hdf:=alV.2;go_wp2;refine bodyPost_ret (v:=.map (some M)) ?_ hdf ?_
 .have e5:a2.tmps[0]?.getD undef=.map (some M):=by rw[<- Array.getD_eq_getD_getElem?];exact e1
  simp[results,results72,go_sem,e5]
 exact⟨M,rfl,e2,⟨e3,e4⟩,iW⟩
end bg
theorem O2{N b:Nat}{W w:World}(h:Below N W w)(hb:N<=b)(y0 y1 y2 y3 y4 Ak y6 Al:Value):Below N W ((((((((w.setCell (O b 0) y0).setCell (O b 1) y1).setCell (O b 2) y2).setCell (O b 3) y3).setCell (O b 4) y4).setCell (O b 5) Ak).setCell (O b 6) y6).setCell (O b 7) Al) :=
 (((((((h.setCell (p:=(O b 0)) hb _).setCell (p:=(O b 1)) hb _).setCell (p:=(O b 2)) hb _).setCell (p:=(O b 3)) hb _).setCell (p:=(O b 4)) hb _).setCell (p:=(O b 5)) hb _).setCell (p:=(O b 6)) hb _).setCell (p:=(O b 7)) hb _
theorem alA(k:Nat)(b g m c:Nat)(n0:Int)(W:World)(hk:W.cell? (O b 0)=some (.int .u8 k))(hm:1<=m)(h0:W.cell? (O g 0)=some (Z n0)):
  Calls prog 178 #[.slice (some (O g 0)) m c,Rw b] W fun e w'=>e=.returned (bM ⟨k,n0,0,0,0,0,0,0⟩)/\U W w':=by
 have lZ:(0:Int)<m:=by omega
 unfold bM aX;have HB1:Hid (U W (W.alloc (.cells #[.int .u8 0,Z 0,Z 0,Z 0,Z 0,Z 0,Z 0,Z 0] 95))):=Y aj;have HZ1:Hid ((W.alloc (.cells #[.int .u8 0,Z 0,Z 0,Z 0,Z 0,Z 0,Z 0,Z 0] 95)).heap[W.heap.size]?=some (.cells #[.int .u8 0,Z 0,Z 0,Z 0,Z 0,Z 0,Z 0,Z 0] 95 (0,0))):=Y (hNq _ _);go_enter func178,ntmps178
 go_wp2_with fail
 generalize W.alloc (.cells #[.int .u8 0,Z 0,Z 0,Z 0,Z 0,Z 0,Z 0,Z 0] 95)=W1 at *;have d0:=cell_later HB1 hk;have d1:=cell_later HB1 h0;refine jO 5 (by kernel_rfl) (by kernel_rfl) ?_;simp only[List.take_succ_cons,List.take_zero,List.drop_succ_cons,List.drop_zero]
 repeat (first | go_big_quiet_step (fail) | quiet_step (fail))
 refine wpQuiet_nil ?_;intro _ hw';obtain⟨nq,hw''⟩:=hw';subst hw'';have HB2:=Y (HB1.trans ((dN nq).mono HB1.size));have HZ2:=Y (bF (dN nq) HZ1);clear d0 d1;generalize W1.drewN nq=W2 at *;obtain⟨R,hR⟩:=aG W.heap.size;have HRR:=Y hR;rw[hR]at HZ2 ⊢;clear hR;have y0:=ag HZ2 0 rfl;have y1:=ag HZ2 1 rfl;have y2:=ag HZ2 2 rfl;have y3:=ag HZ2 3 rfl;have y4:=ag HZ2 4 rfl;have Ak:=ag HZ2 5 rfl;have y6:=ag HZ2 6 rfl;have Al:=ag HZ2 7 rfl;have YR:=aC HZ2 0;have YS:=aC HZ2 1;have YT:=aC HZ2 2;have YU:=aC HZ2 3;have YV:=aC HZ2 4;have YW:=aC HZ2 5;have YX:=aC HZ2 6;have YY:=aC HZ2 7;have pP:=Y (ND HZ2 (.int .u8 k) (Z n0) (Z 0) (Z 0) (Z 0) (Z 0) (Z 0) (Z 0));have kh:=Y (O2 HB2 (Nat.le_of_eq HRR) (.int .u8 k) (Z n0) (Z 0) (Z 0) (Z 0) (Z 0) (Z 0) (Z 0));go_wp2;generalize (((((((W2.setCell (O R 0) (.int .u8 k)).setCell (O R 1) (Z n0)).setCell (O R 2) (Z 0)).setCell (O R 3) (Z 0)).setCell (O R 4) (Z 0)).setCell (O R 5) (Z 0)).setCell (O R 6) (Z 0)).setCell (O R 7) (Z 0)=jP at *;have Yqq:∀j,jP.cell? (O R j)=_:=fun j=>cR jP _ j _ 95 _ pP;exact bodyPost_ret (v:=.agg #[.int .u8 k,Z n0,Z 0,Z 0,Z 0,Z 0,Z 0,Z 0]) (by simp[results,results178,go_sem,Yqq]) rfl ⟨rfl,kh⟩
theorem alB(b g m c:Nat)(s n0 n1 n2 n3 n4:Int)(W:World)(hk:W.cell? (O b 0)=some (Z s))(hm:5<=m)(h0:W.cell? (O g 0)=some (Z n0))(h1:W.cell? (O g 1)=some (Z n1))(h2:W.cell? (O g 2)=some (Z n2))(h3:W.cell? (O g 3)=some (Z n3))(h4:W.cell? (O g 4)=some (Z n4)):
  Calls prog 179 #[.slice (some (O g 0)) m c,Rw b] W fun e w'=>e=.returned (bM ⟨111,n0,0,n1,s,n3,n4,n2⟩)/\U W w':=by
 have m0:(0:Int)<m:=by omega
 have m1:(1:Int)<m:=by omega
 have m2:(2:Int)<m:=by omega
 have m3:(3:Int)<m:=by omega
 have m4:(4:Int)<m:=by omega
 unfold bM aX;have HB1:Hid (U W (W.alloc (.cells #[.int .u8 0,Z 0,Z 0,Z 0,Z 0,Z 0,Z 0,Z 0] 95))):=Y aj;have HZ1:Hid ((W.alloc (.cells #[.int .u8 0,Z 0,Z 0,Z 0,Z 0,Z 0,Z 0,Z 0] 95)).heap[W.heap.size]?=some (.cells #[.int .u8 0,Z 0,Z 0,Z 0,Z 0,Z 0,Z 0,Z 0] 95 (0,0))):=Y (hNq _ _);go_enter func179,ntmps179
 go_wp2_with fail
 generalize W.alloc (.cells #[.int .u8 0,Z 0,Z 0,Z 0,Z 0,Z 0,Z 0,Z 0] 95)=W1 at *;have d0:=cell_later HB1 hk;have d1:=cell_later HB1 h0;have d2:=cell_later HB1 h1;have d3:=cell_later HB1 h2;have d4:=cell_later HB1 h3;have d5:=cell_later HB1 h4;refine jO 17 (by kernel_rfl) (by kernel_rfl) ?_;simp only[List.take_succ_cons,List.take_zero,List.drop_succ_cons,List.drop_zero]
 repeat (first | go_big_quiet_step (fail) | quiet_step (fail))
 refine wpQuiet_nil ?_;intro _ hw';obtain⟨nq,hw''⟩:=hw';subst hw'';have HB2:=Y (HB1.trans ((dN nq).mono HB1.size));have HZ2:=Y (bF (dN nq) HZ1);clear d0 d1 d2 d3 d4 d5;generalize W1.drewN nq=W2 at *;obtain⟨R,hR⟩:=aG W.heap.size;have HRR:=Y hR;rw[hR]at HZ2 ⊢;clear hR;have y0:=ag HZ2 0 rfl;have y1:=ag HZ2 1 rfl;have y2:=ag HZ2 2 rfl;have y3:=ag HZ2 3 rfl;have y4:=ag HZ2 4 rfl;have Ak:=ag HZ2 5 rfl;have y6:=ag HZ2 6 rfl;have Al:=ag HZ2 7 rfl;have YR:=aC HZ2 0;have YS:=aC HZ2 1;have YT:=aC HZ2 2;have YU:=aC HZ2 3;have YV:=aC HZ2 4;have YW:=aC HZ2 5;have YX:=aC HZ2 6;have YY:=aC HZ2 7;have pP:=Y (ND HZ2 (.int .u8 111) (Z n0) (Z 0) (Z n1) (Z s) (Z n3) (Z n4) (Z n2));have kh:=Y (O2 HB2 (Nat.le_of_eq HRR) (.int .u8 111) (Z n0) (Z 0) (Z n1) (Z s) (Z n3) (Z n4) (Z n2));go_wp2;generalize (((((((W2.setCell (O R 0) (.int .u8 111)).setCell (O R 1) (Z n0)).setCell (O R 2) (Z 0)).setCell (O R 3) (Z n1)).setCell (O R 4) (Z s)).setCell (O R 5) (Z n3)).setCell (O R 6) (Z n4)).setCell (O R 7) (Z n2)=jP at *;have Yqq:∀j,jP.cell? (O R j)=_:=fun j=>cR jP _ j _ 95 _ pP;exact bodyPost_ret (v:=.agg #[.int .u8 111,Z n0,Z 0,Z n1,Z s,Z n3,Z n4,Z n2]) (by simp[results,results179,go_sem,Yqq]) rfl ⟨rfl,kh⟩
theorem alC(g m c:Nat)(n0 n1 n2:Int)(W:World)(hm:3<=m)(h0:W.cell? (O g 0)=some (Z n0))(h1:W.cell? (O g 1)=some (Z n1))(h2:W.cell? (O g 2)=some (Z n2)):
  Calls prog 121 #[.slice (some (O g 0)) m c] W fun e w'=>e=.returned (bM ⟨99,n0,0,n1,0,0,0,n2⟩)/\U W w':=by
 have m0:(0:Int)<m:=by omega
 have m1:(1:Int)<m:=by omega
 have m2:(2:Int)<m:=by omega
 unfold bM aX;have HB1:Hid (U W (W.alloc (.cells #[.int .u8 0,Z 0,Z 0,Z 0,Z 0,Z 0,Z 0,Z 0] 95))):=Y aj;have HZ1:Hid ((W.alloc (.cells #[.int .u8 0,Z 0,Z 0,Z 0,Z 0,Z 0,Z 0,Z 0] 95)).heap[W.heap.size]?=some (.cells #[.int .u8 0,Z 0,Z 0,Z 0,Z 0,Z 0,Z 0,Z 0] 95 (0,0))):=Y (hNq _ _);go_enter func121,ntmps121
 go_wp2_with fail
 generalize W.alloc (.cells #[.int .u8 0,Z 0,Z 0,Z 0,Z 0,Z 0,Z 0,Z 0] 95)=W1 at *;have d0:=cell_later HB1 h0;have d1:=cell_later HB1 h1;have d2:=cell_later HB1 h2;refine jO 10 (by kernel_rfl) (by kernel_rfl) ?_;simp only[List.take_succ_cons,List.take_zero,List.drop_succ_cons,List.drop_zero]
 repeat (first | go_big_quiet_step (fail) | quiet_step (fail))
 refine wpQuiet_nil ?_;intro _ hw';obtain⟨nq,hw''⟩:=hw';subst hw'';have HB2:=Y (HB1.trans ((dN nq).mono HB1.size));have HZ2:=Y (bF (dN nq) HZ1);clear d0 d1 d2;generalize W1.drewN nq=W2 at *;obtain⟨R,hR⟩:=aG W.heap.size;have HRR:=Y hR;rw[hR]at HZ2 ⊢;clear hR;have y0:=ag HZ2 0 rfl;have y1:=ag HZ2 1 rfl;have y2:=ag HZ2 2 rfl;have y3:=ag HZ2 3 rfl;have y4:=ag HZ2 4 rfl;have Ak:=ag HZ2 5 rfl;have y6:=ag HZ2 6 rfl;have Al:=ag HZ2 7 rfl;have YR:=aC HZ2 0;have YS:=aC HZ2 1;have YT:=aC HZ2 2;have YU:=aC HZ2 3;have YV:=aC HZ2 4;have YW:=aC HZ2 5;have YX:=aC HZ2 6;have YY:=aC HZ2 7;have pP:=Y (ND HZ2 (.int .u8 99) (Z n0) (Z 0) (Z n1) (Z 0) (Z 0) (Z 0) (Z n2));have kh:=Y (O2 HB2 (Nat.le_of_eq HRR) (.int .u8 99) (Z n0) (Z 0) (Z n1) (Z 0) (Z 0) (Z 0) (Z n2));go_wp2;generalize (((((((W2.setCell (O R 0) (.int .u8 99)).setCell (O R 1) (Z n0)).setCell (O R 2) (Z 0)).setCell (O R 3) (Z n1)).setCell (O R 4) (Z 0)).setCell (O R 5) (Z 0)).setCell (O R 6) (Z 0)).setCell (O R 7) (Z n2)=jP at *;have Yqq:∀j,jP.cell? (O R j)=_:=fun j=>cR jP _ j _ 95 _ pP;exact bodyPost_ret (v:=.agg #[.int .u8 99,Z n0,Z 0,Z n1,Z 0,Z 0,Z 0,Z n2]) (by simp[results,results121,go_sem,Yqq]) rfl ⟨rfl,kh⟩
end Go.Proofs.YtjolccidheflpaaGreatDoor
