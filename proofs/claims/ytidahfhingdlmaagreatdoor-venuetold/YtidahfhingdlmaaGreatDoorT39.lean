/- How steps that came in are opened. -/
import Derived.Test.YtidahfhingdlmaaGreatDoorT00
import Derived.Test.YtidahfhingdlmaaGreatDoorT38
import Derived.ChangeSlices
import Derived.Carry
namespace Go.Proofs.YtidahfhingdlmaaGreatDoor
open Go.ChangeShapes Go.WideShapes Go.ChangeAt Go.RowKit
theorem cellsAsk:Tryz.prog.cellsOf 45 = 8:=by kernel_rfl
theorem cellsStr:Tryz.prog.cellsOf 9 = 1:=by kernel_rfl
theorem cellsU8:Tryz.prog.cellsOf 5 = 1:=by kernel_rfl
theorem cellsStep:Tryz.prog.cellsOf 41 = 5:=by kernel_rfl
theorem cellsAsks:Tryz.prog.cellsOf 39 = 1:=by kernel_rfl
theorem add_more (a:Addr) (i j s:Nat) (hj:0 < j):a.add (i * s + j) = ⟨(a.add (i * s)).block,(a.add (i * s)).off + j,none⟩:=by
 unfold Addr.add
 rw [if_neg (by omega)]
 split
 ·simp_all
 ·simp;omega
set_option maxRecDepth 100000 in
theorem open_asks {H:Type} {enc:TypeId × Value→H} {w:World} {fuel base:Nat} {held:Bool} {v:Value} {x:DataW H × List MemPlace} (h:DataW.trod enc Tryz.prog w base (fun _=>true) held fuel 39 [v] = some x):∃ a n cap l,v = .slice a n cap∧AsksAt w a n l:=by
 rcases Go.Deep.open_slice Tryz.underlying39 h with ⟨hcs,_⟩ | ⟨a,len,cap,m,n,D,Pl,hcs,_,hl,_,hm,_,hx⟩
 ·simp at hcs
  subst hcs
  exact ⟨none,0,0,[],rfl,rfl,.inl rfl⟩
 ·simp at hcs
  subst hcs
  simp only [if_true] at hm
  have each:∀ i,i < len→∃ x:Ask,∀ j,j < 8→w.cell? (a.add (i * 8 + j)) = (askC x)[j]?:=by
   intro i hi
   obtain ⟨cs',h1,h2⟩:=hx i (by omega)
   rw [cellsAsk] at h1
   obtain ⟨_,hlen,hcell⟩:=World.cells?_some h1
   obtain ⟨xs,k,_,_,_,hxl,hf⟩:=DataW.trod_struct Tryz.underlying45 h2
   match xs,hxl,cs',hlen with
   | [y0,y1,y2,y3,y4,y5,y6,y7],_,[c0,c1,c2,c3,c4,c5,c6,c7],_ =>
    have k0:=hf 0 _ rfl
    have k1:=hf 1 _ rfl
    have k2:=hf 2 _ rfl
    have k3:=hf 3 _ rfl
    have k4:=hf 4 _ rfl
    have k5:=hf 5 _ rfl
    have k6:=hf 6 _ rfl
    have k7:=hf 7 _ rfl
    simp [cells3,cellsU8] at k0 k1 k2 k3 k4 k5 k6 k7
    obtain ⟨x1,e1,_,_⟩:=DataW.trod_int Tryz.underlying5 k0
    obtain ⟨x2,e2,_,_⟩:=DataW.trod_int Tryz.underlying3 k1
    obtain ⟨x3,e3,_,_⟩:=DataW.trod_int Tryz.underlying3 k2
    obtain ⟨x4,e4,_,_⟩:=DataW.trod_int Tryz.underlying3 k3
    obtain ⟨x5,e5,_,_⟩:=DataW.trod_int Tryz.underlying3 k4
    obtain ⟨x6,e6,_,_⟩:=DataW.trod_int Tryz.underlying3 k5
    obtain ⟨x7,e7,_,_⟩:=DataW.trod_int Tryz.underlying3 k6
    obtain ⟨x8,e8,_,_⟩:=DataW.trod_int Tryz.underlying3 k7
    simp at e1 e2 e3 e4 e5 e6 e7 e8
    subst e1 e2 e3 e4 e5 e6 e7 e8
    refine ⟨⟨x1,x2,x3,x4,x5,x6,x7,x8⟩,fun j hj=>?_⟩
    have:=hcell j hj
    rw [Go.Deep.add_add] at this
    rw [this]
    rfl
  have inh:Inhabited Ask:=⟨az⟩
  obtain ⟨q,hq⟩:=Go.Deep.choose_lt each
  have hnth:∀ i,i < len→anth ((List.range len).map q) i = q i:=fun i hi=>by
   unfold anth
   rw [List.getD_eq_getElem?_getD,List.getElem?_map,List.getElem?_range hi]
   rfl
  refine ⟨some a,len,cap,(List.range len).map q,rfl,by simp,.inr ⟨a,rfl,fun i hi=>?_⟩⟩
  rw [hnth i hi]
  have e:=fun j hj=>add_more a i j 8 hj
  exact ⟨hq i hi 0 (by decide),by rw [← e 1 (by decide)];exact hq i hi 1 (by decide),by rw [← e 2 (by decide)];exact hq i hi 2 (by decide),by rw [← e 3 (by decide)];exact hq i hi 3 (by decide),by rw [← e 4 (by decide)];exact hq i hi 4 (by decide),by rw [← e 5 (by decide)];exact hq i hi 5 (by decide),by rw [← e 6 (by decide)];exact hq i hi 6 (by decide),by rw [← e 7 (by decide)];exact hq i hi 7 (by decide)⟩
set_option maxRecDepth 100000 in
theorem open_steps {H:Type} {enc:TypeId × Value→H} {w:World} {v:Value} {d:DataW H} {p:List MemPlace} (hv:∃ a len cap,v = .slice a len cap)
  (h:DataW.Trod enc Tryz.prog w 0 (fun _=>true) true 22 v d p):∃ a n cap l,v = .slice a n cap∧StpsAt w a n l:=by
 obtain ⟨a0,len0,cap0,rfl⟩:=hv
 obtain ⟨fuel,hf⟩:=h
 rcases Go.Deep.open_slice Tryz.underlying22 hf with ⟨hcs,_⟩ | ⟨a,len,cap,m,n,D,Pl,hcs,_,hl,_,hm,_,hx⟩
 ·simp [Value.cells] at hcs
  obtain ⟨rfl,rfl,rfl⟩:=hcs
  exact ⟨none,0,0,[],rfl,rfl,.inl rfl,fun i hi=>by omega⟩
 ·simp [Value.cells] at hcs
  obtain ⟨rfl,rfl,rfl⟩:=hcs
  simp only [if_true] at hm
  have each:∀ i,i < len0→∃ x:Stp,StpAt w (a.add (i * 5)) x∧x.n≤9223372036854775807:=by
   intro i hi
   obtain ⟨cs',h1,h2⟩:=hx i (by omega)
   rw [cellsStep] at h1
   obtain ⟨_,hlen,hcell⟩:=World.cells?_some h1
   obtain ⟨xs,k,_,_,_,hxl,hf⟩:=DataW.trod_struct Tryz.underlying41 h2
   match xs,hxl,cs',hlen with
   | [y0,y1,y2,y3,y4],_,[c0,c1,c2,c3,c4],_ =>
    have g0:=hf 0 _ rfl
    have g1:=hf 1 _ rfl
    have g2:=hf 2 _ rfl
    have g3:=hf 3 _ rfl
    have g4:=hf 4 _ rfl
    simp [cells3,cellsStr,cellsAsks] at g0 g1 g2 g3 g4
    obtain ⟨x0,e0,_,_⟩:=DataW.trod_string Tryz.underlying9 g0
    obtain ⟨x1,e1,_,_⟩:=DataW.trod_int Tryz.underlying3 g1
    obtain ⟨aa,am,ac,al,e2,ha⟩:=open_asks g2
    obtain ⟨x3,e3,_,_⟩:=DataW.trod_string Tryz.underlying9 g3
    obtain ⟨x4,e4,_,hw4⟩:=DataW.trod_int Tryz.underlying3 g4
    simp at e0 e1 e3 e4
    subst e0 e1 e2 e3 e4
    have hc:∀ j,j < 5→w.cell? (a.add (i * 5 + j)) = ([.string x0,.int .i64 x1,.slice aa am ac,.string x3,.int .i64 x4]:List Value)[j]?:=fun j hj=>by
     have:=hcell j hj
     rw [Go.Deep.add_add] at this
     exact this
    have e:=fun j hj=>add_more a i j 5 hj
    refine ⟨⟨x0,x1,al,x3,x4⟩,⟨aa,am,ac,hc 0 (by decide),by rw [← e 1 (by decide)];exact hc 1 (by decide),by rw [← e 2 (by decide)];exact hc 2 (by decide),by rw [← e 3 (by decide)];exact hc 3 (by decide),by rw [← e 4 (by decide)];exact hc 4 (by decide),ha⟩,?_⟩
    simp [Lit.wf] at hw4
    show x4≤_
    omega
  have inh:Inhabited Stp:=⟨sz0⟩
  obtain ⟨q,hq⟩:=Go.Deep.choose_lt each
  have hnth:∀ i,i < len0→snth ((List.range len0).map q) i = q i:=fun i hi=>by
   unfold snth
   rw [List.getD_eq_getElem?_getD,List.getElem?_map,List.getElem?_range hi]
   rfl
  refine ⟨some a,len0,cap0,(List.range len0).map q,rfl,by simp,.inr ⟨a,rfl,fun i hi=>?_⟩,fun i hi=>?_⟩
  ·rw [hnth i hi];exact (hq i hi).1
  ·rw [hnth i hi];exact (hq i hi).2
section
variable {H:Type} {enc:TypeId × Value→H} {P:Program} {w:World} {base:Nat} {spare:Nat→Bool} {held:Bool} {t0 t1 t2 t3 t4 t5:TypeId}
theorem trodAll_six {args:Array Value} {ds:List (DataW H)} {ps:List MemPlace} (h:DataW.TrodAll enc P w base spare held [t0,t1,t2,t3,t4,t5] args.toList ds ps) :
  ∃ v0 v1 v2 v3 v4 v5 d0 d1 d2 d3 d4 d5 p0 p1 p2 p3 p4 p5,args = #[v0,v1,v2,v3,v4,v5]∧ds = [d0,d1,d2,d3,d4,d5]∧ps = p0++p1++p2++p3++p4++p5 ∧
   DataW.Trod enc P w base spare held t0 v0 d0 p0∧DataW.Trod enc P w base spare held t1 v1 d1 p1∧DataW.Trod enc P w base spare held t2 v2 d2 p2∧DataW.Trod enc P w base spare held t3 v3 d3 p3∧DataW.Trod enc P w base spare held t4 v4 d4 p4∧DataW.Trod enc P w base spare held t5 v5 d5 p5:=by
 obtain ⟨v0,vs,d0,ds',p0,q,hargs,rfl,rfl,h0,hr⟩:=trodAll_cons h
 obtain ⟨v1,vs1,d1,ds1,p1,q1,rfl,rfl,rfl,h1,hr1⟩:=trodAll_cons hr
 have hr':DataW.TrodAll enc P w base spare held [t2,t3,t4,t5] vs1.toArray.toList ds1 q1:=by simpa using hr1
 obtain ⟨v2,v3,v4,v5,d2,d3,d4,d5,p2,p3,p4,p5,hvs,rfl,rfl,h2,h3,h4,h5⟩:=trodAll_four hr'
 have hvs':vs1 = [v2,v3,v4,v5]:=by have:=congrArg Array.toList hvs;simpa using this
 refine ⟨v0,v1,v2,v3,v4,v5,d0,d1,d2,d3,d4,d5,p0,p1,p2,p3,p4,p5,?_,rfl,by simp,h0,h1,h2,h3,h4,h5⟩
 rw [hvs'] at hargs
 exact Array.toList_inj.1 (by simpa using hargs)
theorem trodAll_mk6 {v0 v1 v2 v3 v4 v5:Value} {d0 d1 d2 d3 d4 d5:DataW H} {p0 p1 p2 p3 p4 p5:List MemPlace} (h0:DataW.Trod enc P w base spare held t0 v0 d0 p0) (h1:DataW.Trod enc P w base spare held t1 v1 d1 p1) (h2:DataW.Trod enc P w base spare held t2 v2 d2 p2) (h3:DataW.Trod enc P w base spare held t3 v3 d3 p3) (h4:DataW.Trod enc P w base spare held t4 v4 d4 p4) (h5:DataW.Trod enc P w base spare held t5 v5 d5 p5) :
  DataW.TrodAll enc P w base spare held [t0,t1,t2,t3,t4,t5] [v0,v1,v2,v3,v4,v5] [d0,d1,d2,d3,d4,d5] (p0++(p1++(p2++(p3++(p4++p5))))):=⟨p0,_,h0,⟨p1,_,h1,trodAll_mk4 h2 h3 h4 h5,rfl⟩,rfl⟩
end
end Go.Proofs.YtidahfhingdlmaaGreatDoor
