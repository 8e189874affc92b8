/- Purses in memory: a block of 48 numbers, read, written, loaded and stored whole. -/
import Derived.Test.YtjolccidheflpaaGreatDoorX07
import Derived.Deep.WholeRow
import Derived.Laws.CopyOwn
import Derived.Deep.MidRow
namespace Go.Proofs.YtjolccidheflpaaGreatDoor
open Go.Proofs.Tryz
set_option maxHeartbeats 8000000
set_option maxRecDepth 100000
open Go.RowKit
def eT(f:Nat->Int):Array Value:=Array.ofFn (n:=48) fun i=>Value.int .i64 (f i.val)
theorem wz(f:Nat->Int):(eT f).size=48:=by simp[eT]
theorem G_(f:Nat->Int){i:Nat}(h:i<48):(eT f)[i]?=some (.int .i64 (f i)):=by unfold eT;rw[Array.getElem?_ofFn];simp[h]
theorem ajD(f:Nat->Int):(eT f).all (·.oneCell')=true:=by rw[Array.all_eq_true];intro i hi;simp only[eT,Array.getElem_ofFn];rfl
theorem ajE{f g:Nat->Int}(h:∀i,i<48->f i=g i):eT f=eT g:=by unfold eT;congr 1;funext i;rw[h i.val i.isLt]
theorem ajF(f:Nat->Int){i:Nat}(v:Int):(eT f).setIfInBounds i (.int .i64 v)=eT (fun j=>if j=i then v else f j):=by
 apply Array.ext_getElem?;intro j;by_cases hj:j<48
 .rw[G_ _ hj]
  by_cases e:i=j
  .subst e
   rw[Array.getElem?_setIfInBounds_self_of_lt (by rw[wz];exact hj)];simp
  .rw[Array.getElem?_setIfInBounds_ne e,G_ _ hj]
   have:¬ j=i:=fun h=>e h.symm;simp[this]
 .rw[Array.getElem?_eq_none (by rw[Array.size_setIfInBounds,wz];omega),Array.getElem?_eq_none (by rw[wz];omega)]
theorem ajG:eT (fun _=>0)=Array.replicate 48 (.int .i64 0):=by
 apply Array.ext_getElem?;intro j;by_cases hj:j<48
 .rw[G_ _ hj,Array.getElem?_replicate];simp[hj]
 .rw[Array.getElem?_eq_none (by rw[wz];omega),Array.getElem?_eq_none (by simp;omega)]
def bq(w:World)(T:TypeId)(B:Nat)(f:Nat->Int):Prop:=w.heap[B]?=some (.cells (eT f) T (0,0))
theorem bq.cell{w:World}{T:TypeId}{B:Nat}{f:Nat->Int}(h:bq w T B f){i:Nat}(hi:i<48):w.cell? ⟨B,i,none⟩=some (.int .i64 (f i)):=by rw[cR w B i _ _ _ h,G_ f hi]
theorem bq.frozen{w:World}{T:TypeId}{B:Nat}{f:Nat->Int}(h:bq w T B f)(i:Nat):w.frozen? ⟨B,i,none⟩=false:=by simp[World.frozen?,show w.heap[B]?=_ from h]
theorem bq.lt{w:World}{T:TypeId}{B:Nat}{f:Nat->Int}(h:bq w T B f):B<w.heap.size:=(Array.getElem?_eq_some_iff.1 h).1
theorem bq.later{w w':World}{T:TypeId}{B n:Nat}{f:Nat->Int}(h:bq w T B f)(hb:Below n w w')(hn:B<n):bq w' T B f:=(hb.block B hn).trans h
theorem bq.set{w:World}{T:TypeId}{B:Nat}{f:Nat->Int}(h:bq w T B f)(i:Nat)(v:Int):bq (w.setCell ⟨B,i,none⟩ (.int .i64 v)) T B (fun j=>if j=i then v else f j):=by unfold bq at h ⊢;rw[setCell_eq_setRow w B i _ _ _ _ h,ajF];exact setRow_heap w B _ _ _ _ h
theorem bq.congr{w:World}{T:TypeId}{B:Nat}{f g:Nat->Int}(h:bq w T B f)(e:∀i,i<48->f i=g i):bq w T B g:=by unfold bq at h ⊢;rw[<- ajE e];exact h
theorem bq.add{w:World}{T:TypeId}{B:Nat}{f:Nat->Int}(h:bq w T B f)(i:Nat)(v u:Int)(e:u=f i+v):bq (w.setCell ⟨B,i,none⟩ (.int .i64 u)) T B (Pu.add f i v) :=
 (h.set i u).congr fun j _=>by
  unfold Pu.add;split
  .rename_i hj;rw[hj];exact e
  .rfl
theorem bq.other{w:World}{T:TypeId}{B:Nat}{f:Nat->Int}(h:bq w T B f){a:Addr}(ha:B≠a.block)(v:Value):bq (w.setCell a v) T B f :=
 (Below.heap_setCell w a v B ha).trans h
theorem bq.new(w:World)(T:TypeId)(f:Nat->Int):bq (w.alloc (.cells (eT f) T)) T w.heap.size f:=heap_alloc_last w _
theorem bq.drew{w:World}{T:TypeId}{B:Nat}{f:Nat->Int}(h:bq w T B f)(n:Nat):bq (w.drewN n) T B f:=h
theorem bq.ajA{w:World}{T:TypeId}{B:Nat}{f:Nat->Int}(h:bq w T B f)(c:Nat)(v0 v1 v2 v3 v4 v5 v6 v7:Int):
  bq ((((((((w.setCell ⟨B,c*8,none⟩ (.int .i64 v0)).setCell ⟨B,c*8+1,none⟩ (.int .i64 v1)).setCell ⟨B,c*8+2,none⟩ (.int .i64 v2)).setCell ⟨B,c*8+3,none⟩ (.int .i64 v3)).setCell ⟨B,c*8+4,none⟩ (.int .i64 v4)).setCell ⟨B,c*8+5,none⟩ (.int .i64 v5)).setCell ⟨B,c*8+6,none⟩ (.int .i64 v6)).setCell ⟨B,c*8+7,none⟩ (.int .i64 v7)) T B
   (fun j=>if j=c*8+7 then v7 else if j=c*8+6 then v6 else if j=c*8+5 then v5 else if j=c*8+4 then v4 else if j=c*8+3 then v3 else if j=c*8+2 then v2 else if j=c*8+1 then v1 else if j=c*8 then v0 else f j) :=
 (((((((h.set _ v0).set _ v1).set _ v2).set _ v3).set _ v4).set _ v5).set _ v6).set _ v7
theorem Xv:(prog.info? 213).map (fun i=>(i.zero,i.size))=some (some (.agg (Array.replicate 48 (.int .i64 0))),48):=by kernel_rfl
theorem NV(w:World):(zeroValue 213).run prog w=.ok (.agg (eT fun _=>0)) w:=by rw[ajG];exact(zero_of_info Xv).1 w
theorem Xw:(prog.info? 213).map (·.size)=some 48:=(zero_of_info Xv).2
theorem MK{w:World}{B:Nat}{f:Nat->Int}(h:bq w 213 B f):(loadVar 213 ⟨B,0,none⟩).run prog w=.ok (.agg (eT f)) w :=
 run_loadVar_row w B 213 213 (eT f) (0,0) _ h underlying213 rfl (by rw[wz];exact Xw)
theorem ajH{w:World}{B:Nat}{f:Nat->Int}(g:Nat->Int)(h:bq w 213 B f):(storeVar 213 ⟨B,0,none⟩ (.agg (eT g))).run prog w=.ok () (w.setRow B (eT g)) :=
 run_storeVar_row w B 213 213 (eT f) (eT g) h (by rw[wz];exact Xw) (by rw[wz,wz]) (ajD g)
theorem bq.stored{w:World}{B:Nat}{T:TypeId}{f:Nat->Int}(g:Nat->Int)(h:bq w T B f):bq (w.setRow B (eT g)) T B g:=setRow_heap w B _ _ _ _ h
theorem NW{ops:Array Oper}{rest:List Oper}{op:Oper}{a:Act}{w:World}{Q:Exit->Act->World->Prop}{B:Nat}{f:Nat->Int}(h:bq w 213 B f)(hgd:op.guard=none)(x:Operand)(ho:op.op=.load 213 x)(hx:a.eval x=.pointer (some ⟨B,0,none⟩))(k:wpList prog ops Q rest (a.put op.dst (.agg (eT f))) w):wpList prog ops Q (op::rest) a w :=
 wpList_plain hgd fun _ hK=>by
  unfold Oper.wp execOp;simp only[ho,hx,Instr.loadAt,Instr.sureAddr,Sem.run_bind,Sem.run_pure,Result.andThen_ok,MK h];exact hK _ _ k
theorem Gl{ops:Array Oper}{rest:List Oper}{op:Oper}{a:Act}{w:World}{Q:Exit->Act->World->Prop}{B:Nat}{f:Nat->Int}(g:Nat->Int)(h:bq w 213 B f)(hgd:op.guard=none)(x y:Operand)(ho:op.op=.store 213 x y)(hx:a.eval x=.pointer (some ⟨B,0,none⟩))(hy:a.eval y=.agg (eT g))(k:wpList prog ops Q rest (a.put op.dst undef) (w.setRow B (eT g))):wpList prog ops Q (op::rest) a w :=
 wpList_plain hgd fun _ hK=>by
  unfold Oper.wp execOp;simp only[ho,hx,hy,Instr.storeAt,Instr.sureAddr,Sem.run_bind,Sem.run_pure,Result.andThen_ok,ajH g h];exact hK _ _ k
end Go.Proofs.YtjolccidheflpaaGreatDoor
