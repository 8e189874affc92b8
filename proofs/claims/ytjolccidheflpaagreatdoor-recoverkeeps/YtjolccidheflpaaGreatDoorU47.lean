/- Own. -/
import Derived.Test.YtjolccidheflpaaGreatDoorU01
import Derived.Test.YtjolccidheflpaaGreatDoorU38
namespace Go.Proofs.YtjolccidheflpaaGreatDoor
set_option maxHeartbeats 8000000
open Go.ChangeShapes Go.WideShapes Go.ChangeAt Go.RowKit
theorem als:Tryz.prog.cellsOf 95=8:=by kernel_rfl
theorem alu:Tryz.prog.cellsOf 9=1:=by kernel_rfl
theorem alv:Tryz.prog.cellsOf 5=1:=by kernel_rfl
theorem alw:Tryz.prog.cellsOf 51=5:=by kernel_rfl
theorem alx:Tryz.prog.cellsOf 24=1:=by kernel_rfl
theorem YP (a:Addr) (i j s:Nat) (hj:0<j):a.add (i*s+j)=⟨(a.add (i*s)).block,(a.add (i*s)).off+j,none⟩:=by
 unfold Addr.add;rw[if_neg (by omega)];split
 ·simp_all
 ·simp;omega
set_option maxRecDepth 100000 in
theorem aly {H:Type} {enc:TypeId×Value->H} {w:World} {fuel base:Nat} {held:Bool} {v:Value} {x:DataW H×List MemPlace} (h:DataW.trod enc Tryz.prog w base (fun _=>true) held fuel 24 [v]=some x):∃ a n cap l,v=.slice a n cap/\zf w a n l:=by
 rcases Go.Deep.open_slice Tryz.underlying24 h with ⟨hcs,_⟩ | ⟨a,len,cap,m,n,D,Pl,hcs,_,hl,_,hm,_,hx⟩
 ·simp at hcs
  subst hcs;exact⟨none,0,0,[],rfl,rfl,.inl rfl⟩
 ·simp at hcs
  subst hcs;simp only[if_true]at hm;have each:∀ i,i<len->∃ x:Ask,∀ j,j<8->w.cell? (a.add (i*8+j))=(kI x)[j]?:=by
   intro i hi;obtain⟨cs',h1,h2⟩:=hx i (by omega);rw[als]at h1;obtain⟨_,hlen,hcell⟩:=World.cells?_some h1;obtain⟨xs,k,_,_,_,Ir,hf⟩:=DataW.trod_struct Tryz.underlying95 h2
   match xs,Ir,cs',hlen with
   | [y0,y1,y2,y3,y4,apo,y6,apq],_,[c0,c1,c2,c3,c4,c5,c6,c7],_ =>
    have jg:=hf 0 _ rfl;have k1:=hf 1 _ rfl;have k2:=hf 2 _ rfl;have k3:=hf 3 _ rfl;have k4:=hf 4 _ rfl;have pC:=hf 5 _ rfl;have k6:=hf 6 _ rfl;have k7:=hf 7 _ rfl;simp[cells3,alv]at jg k1 k2 k3 k4 pC k6 k7;obtain⟨x1,e1,_,_⟩:=DataW.trod_int Tryz.underlying5 jg;obtain⟨x2,e2,_,_⟩:=DataW.trod_int Tryz.underlying3 k1;obtain⟨x3,e3,_,_⟩:=DataW.trod_int Tryz.underlying3 k2;obtain⟨x4,e4,_,_⟩:=DataW.trod_int Tryz.underlying3 k3;obtain⟨x5,e5,_,_⟩:=DataW.trod_int Tryz.underlying3 k4;obtain⟨x6,e6,_,_⟩:=DataW.trod_int Tryz.underlying3 pC;obtain⟨x7,e7,_,_⟩:=DataW.trod_int Tryz.underlying3 k6;obtain⟨x8,e8,_,_⟩:=DataW.trod_int Tryz.underlying3 k7;simp at e1 e2 e3 e4 e5 e6 e7 e8;subst e1 e2 e3 e4 e5 e6 e7 e8;refine⟨⟨x1,x2,x3,x4,x5,x6,x7,x8⟩,fun j hj=>?_⟩
    have:=hcell j hj
    rw[Go.Deep.add_add]at this;rw[this];rfl
  have alz:Inhabited Ask:=⟨Mr⟩;obtain⟨q,hq⟩:=Go.Deep.choose_lt each;have wa:∀ i,i<len->bZ ((List.range len).map q) i=q i:=fun i hi=>by
   unfold bZ;rw[gE,List.getElem?_map,List.getElem?_range hi];rfl
  refine⟨some a,len,cap,(List.range len).map q,rfl,by simp,.inr ⟨a,rfl,fun i hi=>?_⟩⟩;rw[wa i hi];have e:=fun j hj=>YP a i j 8 hj;exact⟨hq i hi 0 (by decide),by rw[<- e 1 (by decide)];exact hq i hi 1 (by decide),by rw[<- e 2 (by decide)];exact hq i hi 2 (by decide),by rw[<- e 3 (by decide)];exact hq i hi 3 (by decide),by rw[<- e 4 (by decide)];exact hq i hi 4 (by decide),by rw[<- e 5 (by decide)];exact hq i hi 5 (by decide),by rw[<- e 6 (by decide)];exact hq i hi 6 (by decide),by rw[<- e 7 (by decide)];exact hq i hi 7 (by decide)⟩
set_option maxRecDepth 100000 in
theorem Wu {H:Type} {enc:TypeId×Value->H} {w:World} {v:Value} {d:DataW H} {p:List MemPlace} (hv:∃ a len cap,v=.slice a len cap)
  (h:DataW.Trod enc Tryz.prog w 0 (fun _=>true) true 36 v d p):∃ a n cap l,v=.slice a n cap/\CH w a n l:=by
 obtain⟨a0,Dc,OG,rfl⟩:=hv;obtain⟨fuel,hf⟩:=h;rcases Go.Deep.open_slice Tryz.underlying36 hf with ⟨hcs,_⟩ | ⟨a,len,cap,m,n,D,Pl,hcs,_,hl,_,hm,_,hx⟩
 ·simp[Value.cells]at hcs
  obtain⟨rfl,rfl,rfl⟩:=hcs;exact⟨none,0,0,[],rfl,rfl,.inl rfl,fun i hi=>by omega⟩
 ·simp[Value.cells]at hcs
  obtain⟨rfl,rfl,rfl⟩:=hcs;simp only[if_true]at hm;have each:∀ i,i<Dc->∃ x:Stp,CO w (a.add (i*5)) x/\x.n<=9223372036854775807:=by
   intro i hi;obtain⟨cs',h1,h2⟩:=hx i (by omega);rw[alw]at h1;obtain⟨_,hlen,hcell⟩:=World.cells?_some h1;obtain⟨xs,k,_,_,_,Ir,hf⟩:=DataW.trod_struct Tryz.underlying51 h2
   match xs,Ir,cs',hlen with
   | [y0,y1,y2,y3,y4],_,[c0,c1,c2,c3,c4],_ =>
    have g0:=hf 0 _ rfl;have g1:=hf 1 _ rfl;have g2:=hf 2 _ rfl;have g3:=hf 3 _ rfl;have g4:=hf 4 _ rfl;simp[cells3,alu,alx]at g0 g1 g2 g3 g4;obtain⟨x0,e0,_,_⟩:=DataW.trod_string Tryz.underlying9 g0;obtain⟨x1,e1,_,_⟩:=DataW.trod_int Tryz.underlying3 g1;obtain⟨aa,am,ac,al,e2,ha⟩:=aly g2;obtain⟨x3,e3,_,_⟩:=DataW.trod_string Tryz.underlying9 g3;obtain⟨x4,e4,_,hw4⟩:=DataW.trod_int Tryz.underlying3 g4;simp at e0 e1 e3 e4;subst e0 e1 e2 e3 e4;have hc:∀ j,j<5->w.cell? (a.add (i*5+j))=([.string x0,.int .i64 x1,.slice aa am ac,.string x3,.int .i64 x4]:List Value)[j]?:=fun j hj=>by
     have:=hcell j hj
     rw[Go.Deep.add_add]at this;exact this
    have e:=fun j hj=>YP a i j 5 hj;refine⟨⟨x0,x1,al,x3,x4⟩,⟨aa,am,ac,hc 0 (by decide),by rw[<- e 1 (by decide)];exact hc 1 (by decide),by rw[<- e 2 (by decide)];exact hc 2 (by decide),by rw[<- e 3 (by decide)];exact hc 3 (by decide),by rw[<- e 4 (by decide)];exact hc 4 (by decide),ha⟩,?_⟩;simp[Lit.wf]at hw4;show x4<=_;omega
  have alz:Inhabited Stp:=⟨XM⟩;obtain⟨q,hq⟩:=Go.Deep.choose_lt each;have wa:∀ i,i<Dc->eU ((List.range Dc).map q) i=q i:=fun i hi=>by
   unfold eU;rw[gE,List.getElem?_map,List.getElem?_range hi];rfl
  refine⟨some a,Dc,OG,(List.range Dc).map q,rfl,by simp,.inr ⟨a,rfl,fun i hi=>?_⟩,fun i hi=>?_⟩
  ·rw[wa i hi];exact(hq i hi).1
  ·rw[wa i hi];exact(hq i hi).2
end Go.Proofs.YtjolccidheflpaaGreatDoor
