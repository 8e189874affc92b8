/- recover.rising, by its contract. -/
import Derived.Test.YtjolccidheflpaaGreatDoorX41
namespace Go.Proofs.YtjolccidheflpaaGreatDoor
open Go.Proofs.Tryz
set_option maxHeartbeats 8000000
set_option maxRecDepth 100000
open Go.RowKit Go.Shelf
attribute [local go_sem] Oper.semAt_some
set_option maxRecDepth 100000
structure ni (w:World) (N:Nat) (ok:Bool) (v2:Value) (ns:List Nat) (last:Int) (v:Value) (W:World):Prop where
 b0:Boxed W N 23 v2
 b1:Boxed W (N+1) 4 (.bool ok)
 b2:Boxed W (N+2) 23 v
 b3:Boxed W (N+3) 3 (Z last)
 row:W.ownsRow (N+7) 3 1 v ns.length (lg ns)
 big:N+7<=W.heap.size
 below:Below N w W
theorem ar3{W:World}{base e size k:Nat}{v:Value}{xs:List Value}(h:W.ownsRow base e size v k xs):∃a c,v=.slice a k c:=by
 rcases h.2 with ⟨rfl,h2⟩ | ⟨g,cap,cur,rfl,_⟩
 .exact⟨none,0,by simp_all⟩
 .exact⟨_,_,rfl⟩
theorem ni.grown{w W V:World}{N:Nat}{ok:Bool}{v2 v:Value}{ns:List Nat}{last:Int}{row:Option Nat}(h:ni w N ok v2 ns last v W)(hg:W.grownBy V row)(hr:∀r,row=some r->r=N+4\/(N+7<=r/\∃o:Obj,W.heap[r]?=some o/\o.isCells=false)):ni w N ok v2 ns last v V:=by
 have hne:∀k,k<N+4->some k≠row:=fun k hk e=>by rcases hr k e.symm with h' | ⟨h',_⟩ <;> omega
 refine⟨h.b0.kept hg (hne _ (by omega)),h.b1.kept hg (hne _ (by omega)),h.b2.kept hg (hne _ (by omega)),h.b3.kept hg (hne _ (by omega)),h.row.kept hg ?_,lTq h.big hg.size,h.below.grown hg (by have:=h.big;omega) (fun j e=>by rcases hr j e with h' | ⟨h',_⟩ <;> omega)⟩;cases hv:v.ownBlock with
 | none=>exact .inl rfl
 | some g =>
  refine .inr fun e=>?_;have mf:=rF h.row hv;rcases hr g e.symm with h' | ⟨_,o,ho,hc⟩
  .omega
  .rcases h.row.2 with ⟨rfl,_⟩ | ⟨g',cap,cur,rfl,_,hgb,_⟩
   .simp[Value.ownBlock]at hv
   .obtain rfl:g'=g:=by simpa [Value.ownBlock] using hv
    rw[hgb]at ho;cases ho;cases hc
theorem ni.JB{w W:World}{N:Nat}{ok:Bool}{v2 v:Value}{ns:List Nat}{last:Int}(h:ni w N ok v2 ns last v W)(u:Value)(b:Bool):ni w N b u ns last v ((W.setCell (O N 0) u).setCell ⟨N+1,0,none⟩ (.bool b)):=by
 have hne:∀k,k<N+7->some k≠v.ownBlock:=fun k hk e=>by have:=rF h.row e.symm;omega
 refine⟨(h.b0.set u).other (by omega) _,(h.b1.other (by omega) _).set _,(h.b2.other (by omega) _).other (by omega) _,(h.b3.other (by omega) _).other (by omega) _,(h.row.kept (grownBy_setCell' _ _ _) (.inr (hne _ (by omega)).symm)).kept (grownBy_setCell' _ _ _) (.inr (hne _ (by omega)).symm),by simpa using h.big,
  (h.below.setCell (p:=(O N 0)) (E _) _).setCell (p:=⟨N+1,0,none⟩) (Nat.le_succ _) _⟩
theorem ni.later{w W V:World}{N:Nat}{ok:Bool}{v2 v:Value}{ns:List Nat}{last:Int}(h:ni w N ok v2 ns last v W)(hb:U W V):ni w N ok v2 ns last v V :=
 h.grown (row:=none) ⟨hb.os,hb.tape,hb.output,hb.size,fun i hi _=>hb.block i hi⟩ (fun r e=>by cases e)
theorem ni.pushed{w W w1:World}{N n:Nat}{ok:Bool}{v2 v v':Value}{ns:List Nat}{last:Int}{tmp:Obj}(h:ni w N ok v2 ns last v W)(hg:(W.alloc tmp).grownBy w1 v.ownBlock)(hr:w1.ownsRow (N+7) 3 1 v' (ns.length+1) (lg ns++[Z (n:Int)])):
  Boxed w1 (N+2) 23 v/\Boxed w1 (N+3) 3 (Z last)/\ni w N ok v2 (ns++[n]) n v' ((w1.setCell ⟨N+2,0,none⟩ v').setCell ⟨N+3,0,none⟩ (Z (n:Int)))/\KeepsOthers W ((w1.setCell ⟨N+2,0,none⟩ v').setCell ⟨N+3,0,none⟩ (Z (n:Int))) /\
   wB.At [N+4,N+5,N+6] W ((w1.setCell ⟨N+2,0,none⟩ v').setCell ⟨N+3,0,none⟩ (Z (n:Int))):=by
 have ha:=h.grown (World.grownBy_alloc W tmp none) (fun r e=>by cases e);have hne:∀k,k<N+7->some k≠v.ownBlock:=fun k hk e=>by have:=rF h.row e.symm;omega
 have xE:∀k,k<N+7->some k≠v'.ownBlock:=fun k hk e=>by have:=rF hr e.symm;omega
 have p0:=ha.b0.kept hg (hne _ (by omega));have p1:=ha.b1.kept hg (hne _ (by omega));have p2:=ha.b2.kept hg (hne _ (by omega));have p3:=ha.b3.kept hg (hne _ (by omega));have hsz:W.heap.size<=w1.heap.size:=lTq (by simp) hg.size;have Jx:=h.big;refine⟨p2,p3,⟨(p0.other (by omega) _).other (by omega) _,(p1.other (by omega) _).other (by omega) _,(p2.set _).other (by omega) _,(p3.other (by omega) _).set _,?_,by simp;omega,?_⟩,?_,?_⟩
 .have:=(hr.kept (grownBy_setCell' w1 (N+2) v') (.inr (xE _ (by omega)).symm)).kept (grownBy_setCell' _ (N+3) (Z (n:Int))) (.inr (xE _ (by omega)).symm)
  simpa [lg] using this
 .exact((ha.below.grown hg (by have:=ha.big;omega) (fun k e=>by have:=rF h.row e;omega)).setCell (p:=⟨N+2,0,none⟩) (by show N<=N+2;omega) _).setCell (p:=⟨N+3,0,none⟩) (by show N<=N+3;omega) _
 .exact(((KeepsOthers.alloc W tmp).trans (acF ha.row hg)).trans (KeepsOthers.setCell _ _ _)).trans (KeepsOthers.setCell _ _ _)
 .intro k hk
  have hk':N+4<=k/\k<N+7:=by simp at hk;omega
  refine((grownBy_setCell' _ (N+3) _).block k ?_ ?_).trans (((grownBy_setCell' w1 (N+2) v').block k ?_ ?_).trans ((hg.block k ?_ (hne k hk'.2)).trans (Below.heap_alloc W tmp k ?_)))
  .simp;omega
  .simp;omega
  .omega
  .simp;omega
  .simp;omega
  .omega
theorem arQ(hidx:∀(s:ByteArray) (c:UInt8) (w:World),Calls prog 199 #[.string s,.string ⟨#[c]⟩] w fun e w'=>e=.returned (Z (Lib.indexByte s.data.toList c))/\w'=w)(s:ByteArray)(w:World)(h:Bi w)(hs:s.size<=1000000000):
  Calls prog 83 #[.string s] w fun e w'=>∃v,e=.returned (.tuple #[v,.bool (qc s).isSome])/\U w w'/\w'.ownsRow w.heap.size 3 1 v ((qc s).getD []).length (lg ((qc s).getD [])):=by
 refine(callsIn_wide (n:=5)).1 ?_;refine callsIn_of_wp_marks func83 rfl trivial ?_ rfl;simp only[ntmps83,List.size_toArray,List.length_cons,List.length_nil,Nat.reduceAdd,Nat.reduceSub,Array.replicate_succ,Array.replicate_zero,List.push_toArray,List.append_toArray,List.nil_append,List.cons_append];by_cases h0:s.size=0
 .obtain rfl:s=⟨#[]⟩:=by
   apply ByteArray.ext;exact Array.eq_empty_of_size_eq_zero h0
  gi_wp2
  have g0:=(Boxed.new w 23 (.slice none 0 0)).alloc (.cells #[.bool true] 4);have g1:=Boxed.new (w.alloc (.cells #[.slice none 0 0] 23)) 4 (.bool true);rw[World.size_alloc]at g1;have ar4:=g0.cell;have g1':=g1.cell;refine⟨.tuple #[.slice none 0 0,.bool true],?_,.slice none 0 0,rfl,((bRq _ w).alloc (E _) _).alloc (by simp) _,World.ownsRow_nil _ _ _ _⟩;simp[results,f83,go_sem,ar4,g1']
 .have hne:(s.toList==[])=false:=by
   rw[ByteArray.toList_eq];cases hl:s.data.toList with
   | nil=>exact(h0 (by rw[ByteArray.size,<- Array.length_toList,hl];rfl)).elim
   | cons=>rfl
  have zl:qc s=lm (-1) ((pieces 44 s.data.toList).map aZ):=by rw[qc,if_neg h0]
  gi_wp2_with (refine⟨trivial,?_⟩;gi_at_call 84;refine(callsIn_wide.2 (acI s ⟨#[44]⟩ _)).mono ?_;rintro e w' ⟨rfl,rfl⟩)
  have hsz:((((w.alloc (Obj.cells #[Value.slice none 0 0] 23)).alloc (Obj.cells #[Value.bool false] 4)).alloc (Obj.cells #[Value.slice none 0 0] 23)).alloc (Obj.cells #[Value.int IntKind.i64 (-1)] 3)).heap.size=w.heap.size+4:=by simp
  have pK:ni w w.heap.size false (.slice none 0 0) [] (-1) (.slice none 0 0) (oa s ⟨#[44]⟩ ((((w.alloc (Obj.cells #[Value.slice none 0 0] 23)).alloc (Obj.cells #[Value.bool false] 4)).alloc (Obj.cells #[Value.slice none 0 0] 23)).alloc (Obj.cells #[Value.int IntKind.i64 (-1)] 3))):=by have q0:=(((Boxed.new w 23 (.slice none 0 0)).alloc (.cells #[.bool false] 4)).alloc (.cells #[.slice none 0 0] 23)).alloc (.cells #[Z (-1)] 3);have q1:=((Boxed.new (w.alloc (.cells #[.slice none 0 0] 23)) 4 (.bool false)).alloc (.cells #[.slice none 0 0] 23)).alloc (.cells #[Z (-1)] 3);have q2:=(Boxed.new ((w.alloc (.cells #[.slice none 0 0] 23)).alloc (.cells #[.bool false] 4)) 23 (.slice none 0 0)).alloc (.cells #[Z (-1)] 3);have q3:=Boxed.new (((w.alloc (.cells #[.slice none 0 0] 23)).alloc (.cells #[.bool false] 4)).alloc (.cells #[.slice none 0 0] 23)) 3 (Z (-1));simp only[World.size_alloc]at q1 q2 q3;have hg:=Rp s ⟨#[44]⟩ ((((w.alloc (.cells #[.slice none 0 0] 23)).alloc (.cells #[.bool false] 4)).alloc (.cells #[.slice none 0 0] 23)).alloc (.cells #[Z (-1)] 3));refine⟨q0.kept hg (by simp),q1.kept hg (by simp),q2.kept hg (by simp),q3.kept hg (by simp),World.ownsRow_nil _ _ _ _,by rw[JA,hsz];exact E _,?_⟩;exact(((((bRq _ w).alloc (E _) _).alloc (by simp) _).alloc (by simp;omega) _).alloc (by simp;omega) _).grown hg (by simp;omega) (fun k e=>by cases e)
  obtain⟨uV,E5⟩:=aG ((((w.alloc (Obj.cells #[Value.slice none 0 0] 23)).alloc (Obj.cells #[Value.bool false] 4)).alloc (Obj.cells #[Value.slice none 0 0] 23)).alloc (Obj.cells #[Value.int IntKind.i64 (-1)] 3));rw[E5]at hsz pK ⊢;have hW0:(oa s ⟨#[44]⟩ uV).heap.size=w.heap.size+7:=by rw[JA,hsz]
  refine wB.YF rfl (by omega) (gf:=197) (lb:=#[.pointer (some ⟨w.heap.size+5,0,none⟩),.pointer (some ⟨w.heap.size+4,0,none⟩),.pointer (some ⟨w.heap.size+6,0,none⟩)]) (by simp only[E6,hsz];rfl) trivial (enters_of func197 (by kernel_rfl) rfl)
   (acJ hidx _ (by omega) s 44 hs (w.heap.size+4) (w.heap.size+5) (w.heap.size+6) (by omega) (by omega)) ?H (by omega) ?K (fun _=>rfl)
   (fun pre W=>∃ns last v,rH pre ns last/\ni w w.heap.size false (.slice none 0 0) ns last v W)
   (fun c _ W=>c=.ret/\lm (-1) ((pieces 44 s.data.toList).map aZ)=none/\∃ns last v,ni w w.heap.size false (.slice none 0 0) ns last v W)
   ?I ?Ix ⟨[],-1,_,rH.nil,pK⟩
   (fun x=>{ tmps:=#[.string s,undef,Rw w.heap.size,.pointer (some ⟨w.heap.size+1,0,none⟩),.pointer (some ⟨w.heap.size+2,0,none⟩),.pointer (some ⟨w.heap.size+3,0,none⟩),.string x,undef,undef,.string s,.bool false,.string s,E6 uV,.string x,
    undef,undef,undef,undef,undef,undef,undef,undef,undef,undef,undef,undef,undef,undef,undef,undef,undef,undef,undef,undef,undef,undef,undef],defers:=[] }) ?assign ?body ?done ?stop
  case H =>
   intro o o';have e1:=(((acK s ⟨#[44]⟩ uV).alloc o).alloc o');have e2:=(((acL s ⟨#[44]⟩ uV).alloc o).alloc o');have e3:=(((acM s ⟨#[44]⟩ uV).alloc o).alloc o');rw[hsz]at e1 e2 e3;exact⟨e1,e2,e3⟩
  case K=>intro k hk;simp at hk;omega
  case I =>
   rintro s' A B row ⟨ns,last,v,hR,hi⟩ hg hr;exact⟨ns,last,v,hR,hi.grown hg (fun r e=>by rw[hW0]at hr;exact hr r e)⟩
  case Ix =>
   rintro c s' A B row ⟨hc,hn,ns,last,v,hi⟩ hg hr;exact⟨hc,hn,ns,last,v,hi.grown hg (fun r e=>by rw[hW0]at hr;exact hr r e)⟩
  case assign =>
   intro l x W K hK
   gi_wp2
   exact hK
  case body =>
   rintro l pre x W ⟨ns,last,v,hR,hi⟩ OQ;obtain⟨qs,sr⟩:=OQ;have hxs:(pieces 44 s.data.toList).map aZ=pre++x::qs:=by rw[<- sr];simp
   have qd:=PG 9 (by omega) x W (h.later hi.below);have bad:(∀n,gK 9 x=some n->¬ (n<=5/\last<(n:Int)))->lm (-1) ((pieces 44 s.data.toList).map aZ)=none:=fun hb=>by rw[hxs];exact hR.bad hb qs
   cases hx:gK 9 x with
   | none =>
    rw[hx]at qd
    gi_wp2_with (first | (refine⟨trivial,?_⟩;gi_at_call 82;refine(CallsIn.inRound l (callsIn_wide.2 qd)).mono ?_;rintro e w1 ⟨rfl,hb⟩;have eE:=hi.later hb;have d0:=eE.b0.cell;have f0:=eE.b0.frozen;have d1:=eE.b1.cell;have f1:=eE.b1.frozen) | (refine⟨trivial,?_⟩))
    exact⟨((Bn hb).trans (KeepsOthers.setCell _ _ _)).trans (KeepsOthers.setCell _ _ _),rfl,bad (fun n hn=>by rw[hx]at hn;cases hn),ns,last,v,eE.JB _ _⟩
   | some n =>
    rw[hx]at qd;by_cases h5:n<=5
    .have hcl:∀W',Calls prog 97 #[Z (n:Int)] W' fun e w'=>e=.returned (.bool true)/\w'=W':=fun W'=>by
      have:=xu (n:Int) W';rwa [show ah.aK (n:Int) 0 5=true by simp[ah.aK];omega]at this
     by_cases hl:last<(n:Int)
     .have hl':¬ (n:Int)<=last:=by omega
      obtain⟨i0,vV,hz0,hz1,hz2⟩:=aaV;have hlen:=hR.2.1;have acA:=hR.2.2.2
      gi_wp2_with (first | (refine⟨trivial,?_⟩;gi_at_call 82;refine(CallsIn.inRound l (callsIn_wide.2 qd)).mono ?_;rintro e w1 ⟨rfl,hb⟩;have eE:=hi.later hb;have d0:=eE.b0.cell;have f0:=eE.b0.frozen;have d1:=eE.b1.cell;have f1:=eE.b1.frozen;have d2:=eE.b2.cell;have f2:=eE.b2.frozen;have d3:=eE.b3.cell;have f3:=eE.b3.frozen) | (refine⟨trivial,?_⟩;gi_at_call 97;refine(CallsIn.inRound l (callsIn_wide.2 (hcl _))).mono ?_;rintro e w2 ⟨rfl,rfl⟩) | (gi_at_builtin;refine wpListIn_append_own _ rfl _ _ 23 rfl (w.heap.size+7) 3 i0 (Z 0) 1 8 underlying23 vV hz0 hz1 hz2 rfl (by decide) _ _ _ rfl (eE.row.alloc _) (O _ 0) 1 1 [Z (n:Int)] rfl rfl (cell_one_new _ _ _) (by simp[Value.oneCell']) (by simp[maxLen];omega) (by omega) (by have:=eE.big;simp;omega) ?_;intro v' w3 hown' hgrow _;obtain⟨g',cap',rfl⟩:=ownsRow_succ hown';obtain⟨k2,k3,bU,Om,DY⟩:=eE.pushed hgrow hown';have m2:=k2.cell;have auQ:=k2.frozen;have m3:=(k3.other (B':=w.heap.size+2) (by omega) (.slice (some (O g' 0)) (ns.length+1) cap')).cell;have auR:=(k3.other (B':=w.heap.size+2) (by omega) (.slice (some (O g' 0)) (ns.length+1) cap')).frozen) | (refine⟨trivial,?_⟩))
      exact⟨(Bn hb).trans Om,wB.At.trans (fun k hk=>hb.block k (by have:=hi.big;simp at hk;omega)) DY,_,_,_,hR.step hx h5 hl,bU⟩
     .have hl':(n:Int)<=last:=by omega
      gi_wp2_with (first | (refine⟨trivial,?_⟩;gi_at_call 82;refine(CallsIn.inRound l (callsIn_wide.2 qd)).mono ?_;rintro e w1 ⟨rfl,hb⟩;have eE:=hi.later hb;have d0:=eE.b0.cell;have f0:=eE.b0.frozen;have d1:=eE.b1.cell;have f1:=eE.b1.frozen;have d2:=eE.b2.cell;have f2:=eE.b2.frozen;have d3:=eE.b3.cell;have f3:=eE.b3.frozen) | (refine⟨trivial,?_⟩;gi_at_call 97;refine(CallsIn.inRound l (callsIn_wide.2 (hcl _))).mono ?_;rintro e w2 ⟨rfl,rfl⟩) | (refine⟨trivial,?_⟩))
      exact⟨((Bn hb).trans (KeepsOthers.setCell _ _ _)).trans (KeepsOthers.setCell _ _ _),rfl,bad (fun m hm=>by rw[hx]at hm;cases hm;omega),ns,last,v,eE.JB _ _⟩
    .have hcl:∀W',Calls prog 97 #[Z (n:Int)] W' fun e w'=>e=.returned (.bool false)/\w'=W':=fun W'=>by
      have:=xu (n:Int) W';rwa [show ah.aK (n:Int) 0 5=false by simp[ah.aK];omega]at this
     gi_wp2_with (first | (refine⟨trivial,?_⟩;gi_at_call 82;refine(CallsIn.inRound l (callsIn_wide.2 qd)).mono ?_;rintro e w1 ⟨rfl,hb⟩;have eE:=hi.later hb;have d0:=eE.b0.cell;have f0:=eE.b0.frozen;have d1:=eE.b1.cell;have f1:=eE.b1.frozen;have d2:=eE.b2.cell;have f2:=eE.b2.frozen;have d3:=eE.b3.cell;have f3:=eE.b3.frozen) | (refine⟨trivial,?_⟩;gi_at_call 97;refine(CallsIn.inRound l (callsIn_wide.2 (hcl _))).mono ?_;rintro e w2 ⟨rfl,rfl⟩) | (refine⟨trivial,?_⟩))
     exact⟨((Bn hb).trans (KeepsOthers.setCell _ _ _)).trans (KeepsOthers.setCell _ _ _),rfl,bad (fun m hm=>by rw[hx]at hm;cases hm;omega),ns,last,v,eE.JB _ _⟩
  case done =>
   rintro W ⟨ns,last,v,hR,hi⟩ hD;obtain⟨pa,pc,rfl⟩:=ar3 hi.row;have d0:=hi.b0.cell;have f0:=hi.b0.frozen;have d1:=hi.b1.cell;have f1:=hi.b1.frozen;have d2:W.cell? ⟨w.heap.size+1+1,0,none⟩=some _:=hi.b2.cell
   gi_wp2
   have hi2:=hi.JB (.slice pa ns.length pc) true;have E7:=((KeepsOthers.setCell W (O w.heap.size 0) (.slice pa ns.length pc)).trans (KeepsOthers.setCell _ ⟨w.heap.size+1,0,none⟩ (.bool true))).same _ _ hD rfl;have bU:=hi2.grown (grownBy_putObj' _ _ (.deferred none)) (fun r e=>by cases e;exact .inr ⟨by omega,_,E7,rfl⟩);have g0:=bU.b0.cell;have g1:=bU.b1.cell;refine⟨by simp,.inl ⟨_,_,rfl,run_takeDeferred E7,.tuple #[.slice pa ns.length pc,.bool true],?_,.slice pa ns.length pc,?_,bU.below,?_⟩⟩
   .simp[results,f83,go_sem,g0,g1]
   .rw[zl,hR.all];rfl
   .rw[zl,hR.all];exact ij bU.row (by omega)
  case stop =>
   rintro c pre W _ ⟨rfl,hn,ns,last,v,hi⟩ hD
   gi_wp2
   have bU:=hi.grown (grownBy_putObj' _ _ (.deferred none)) (fun r e=>by cases e;exact .inr ⟨by omega,_,hD,rfl⟩);have g0:=bU.b0.cell;have g1:=bU.b1.cell;refine⟨by simp,.inl ⟨_,_,rfl,run_takeDeferred hD,.tuple #[.slice none 0 0,.bool false],?_,.slice none 0 0,?_,bU.below,?_⟩⟩
   .simp[results,f83,go_sem,g0,g1]
   .rw[zl,hn];rfl
   .rw[zl,hn];exact World.ownsRow_nil _ _ _ _
end Go.Proofs.YtjolccidheflpaaGreatDoor
