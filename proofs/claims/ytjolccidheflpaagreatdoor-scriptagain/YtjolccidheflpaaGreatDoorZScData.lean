/- How lines of commands that came in are opened. -/
import Derived.Test.YtjolccidheflpaaGreatDoorZScAgain
namespace Go.Proofs.YtjolccidheflpaaGreatDoor
set_option maxHeartbeats 8000000
open Go.ChangeShapes Go.WideShapes Go.ChangeAt Go.RowKit
namespace bg
theorem alZ:Tryz.prog.cellsOf 81=3:=by kernel_rfl
theorem al0:Tryz.prog.cellsOf 23=1:=by kernel_rfl
theorem al1:Tryz.prog.cellsOf 9=1:=by kernel_rfl
theorem al2{H:Type}{enc:TypeId×Value->H}{w:World}{fuel base:Nat}{held:Bool}{v:Value}{x:DataW H×List MemPlace}(h:DataW.trod enc Tryz.prog w base (fun _=>true) held fuel 23 [v]=some x):∃a n cap l,v=.slice a n cap/\Ah w a n cap l:=by
 rcases open_ints Tryz.underlying23 Tryz.underlying3 cells3 h with ⟨hcs,_⟩ | ⟨a,n,cap,ss,hcs,_,hl,_,hz,_,hcell,hwf⟩
 .simp at hcs
  subst hcs;exact⟨none,0,0,[],rfl,rfl,fun x hx=>(by cases hx),.inl ⟨rfl,rfl,rfl⟩⟩
 .simp at hcs
  subst hcs;simp only[if_true]at hz;refine⟨some a,n,cap,ss.take n,rfl,by rw[lKq];omega,fun x hx=>?_,.inr ⟨a,rfl,fun i x hx=>?_⟩⟩
  .have mX:(decide (IntKind.i64.min<=x)&&decide (x<=IntKind.i64.max))=true:=hwf x (List.mem_of_mem_take hx)
   rw[bEq]at mX;exact⟨of_decide_eq_true mX.1,of_decide_eq_true mX.2⟩
  .have hx2:ss[i]?=some x:=by
    rw[List.getElem?_take]at hx;split at hx
    .exact hx
    .cases hx
   have:=hcell i (List.getElem?_eq_some_iff.1 hx2).1
   rw[gE,hx2]at this;exact this
set_option maxRecDepth 100000 in
theorem al3{H:Type}{enc:TypeId×Value->H}{w:World}{v:Value}{d:DataW H}{p:List MemPlace}(hv:∃a len cap,v=.slice a len cap)(h:DataW.Trod enc Tryz.prog w 0 (fun _=>true) true 77 v d p):∃a n cap l,v=.slice a n cap/\AP w a n l:=by
 obtain⟨a0,Ig,O5,rfl⟩:=hv;obtain⟨fuel,hf⟩:=h;rcases Go.Deep.open_slice Tryz.underlying77 hf with ⟨hcs,_⟩ | ⟨a,len,cap,m,n,D,Pl,hcs,_,hl,_,hm,_,hx⟩
 .simp[Value.cells]at hcs
  obtain⟨rfl,rfl,rfl⟩:=hcs;exact⟨none,0,0,[],rfl,rfl,fun i x hx=>by cases hx⟩
 .simp[Value.cells]at hcs
  obtain⟨rfl,rfl,rfl⟩:=hcs;simp only[if_true]at hm;have each:∀i,i<Ig->∃x:jr,D9 w (a.add (i*3)) x:=by
   intro i hi;obtain⟨cs',h1,h2⟩:=hx i (by omega);rw[alZ]at h1;obtain⟨_,hlen,hcell⟩:=World.cells?_some h1;obtain⟨xs,k,_,_,_,Y8,hf⟩:=DataW.trod_struct Tryz.underlying81 h2
   match xs,Y8,cs',hlen with
   | [y0,y1,y2],_,[c0,c1,c2],_ =>
    have g0:=hf 0 _ rfl;have g1:=hf 1 _ rfl;have g2:=hf 2 _ rfl;simp[al0,al1]at g0 g1 g2;obtain⟨x0,e0,_,_⟩:=DataW.trod_string Tryz.underlying9 g0;obtain⟨aa,am,ac,al,e1,ha⟩:=al2 g1;obtain⟨x2,e2,_,_⟩:=DataW.trod_string Tryz.underlying9 g2;simp at e0 e2;subst e0 e1 e2;have hc:∀j,j<3->w.cell? (a.add (i*3+j))=([.string x0,.slice aa am ac,.string x2]:List Value)[j]?:=fun j hj=>by
     have:=hcell j hj
     rw[Go.Deep.add_add]at this;exact this
    have e:∀j,0<j->a.add (i*3+j)=⟨(a.add (i*3)).block,(a.add (i*3)).off+j,none⟩:=fun j hj=>by
     unfold Addr.add;rw[if_neg (by omega)];split
     .simp_all
     .simp;omega
    exact⟨⟨x0,al,x2⟩,aa,am,ac,hc 0 (by decide),by rw[<- e 1 (by decide)];exact hc 1 (by decide),by rw[<- e 2 (by decide)];exact hc 2 (by decide),ha⟩
  have atZ:Inhabited jr:=⟨⟨⟨#[]⟩,[],⟨#[]⟩⟩⟩;obtain⟨q,hq⟩:=Go.Deep.choose_lt each;refine⟨some a,Ig,O5,(List.range Ig).map q,rfl,by simp,fun i x hx=>⟨a,rfl,?_⟩⟩;rw[List.getElem?_map]at hx;obtain⟨j,hj,rfl⟩:=Option.map_eq_some_iff.1 hx;have hi:i<Ig:=by
   have:=(List.getElem?_eq_some_iff.1 hj).1
   simpa using this
  rw[List.getElem?_range hi]at hj;cases hj;exact hq i hi
end bg
end Go.Proofs.YtjolccidheflpaaGreatDoor
