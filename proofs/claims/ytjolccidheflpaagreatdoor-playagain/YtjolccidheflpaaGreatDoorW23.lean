/- Purses in memory: a block of 48 numbers, read, written, loaded and stored whole. -/
import Derived.Test.YtjolccidheflpaaGreatDoorW07
import Derived.Test.YtjolccidheflpaaGreatDoorW00
import Derived.Deep.WholeRow
import Derived.Laws.CopyOwn
import Derived.Deep.MidRow
namespace Go.Proofs.YtjolccidheflpaaGreatDoor
set_option maxHeartbeats 8000000
set_option maxRecDepth 100000
open Go.RowKit
def cu (f:Nat->Int):Array Value:=Array.ofFn (n:=48) fun i=>Value.int .i64 (f i.val)
theorem uT (f:Nat->Int):(cu f).size=48:=by simp[cu]
theorem GX (f:Nat->Int) {i:Nat} (h:i<48):(cu f)[i]?=some (.int .i64 (f i)):=by
 unfold cu;rw[Array.getElem?_ofFn];simp[h]
theorem ahN (f:Nat->Int):(cu f).all (·.oneCell')=true:=by
 rw[Array.all_eq_true];intro i hi;simp only[cu,Array.getElem_ofFn];rfl
theorem ahO {f g:Nat->Int} (h:∀ i,i<48->f i=g i):cu f=cu g:=by
 unfold cu;congr 1;funext i;rw[h i.val i.isLt]
theorem ahP (f:Nat->Int) {i:Nat} (v:Int):(cu f).setIfInBounds i (.int .i64 v)=cu (fun j=>if j=i then v else f j):=by
 apply Array.ext_getElem?;intro j;by_cases hj:j<48
 .rw[GX _ hj]
  by_cases e:i=j
  .subst e
   rw[Array.getElem?_setIfInBounds_self_of_lt (by rw[uT];exact hj)];simp
  .rw[Array.getElem?_setIfInBounds_ne e,GX _ hj]
   have:¬ j=i:=fun h=>e h.symm;simp[this]
 .rw[Array.getElem?_eq_none (by rw[Array.size_setIfInBounds,uT];omega),Array.getElem?_eq_none (by rw[uT];omega)]
theorem ahQ:cu (fun _=>0)=Array.replicate 48 (.int .i64 0):=by
 apply Array.ext_getElem?;intro j;by_cases hj:j<48
 .rw[GX _ hj,Array.getElem?_replicate];simp[hj]
 .rw[Array.getElem?_eq_none (by rw[uT];omega),Array.getElem?_eq_none (by simp;omega)]
def a_ (w:World) (T:TypeId) (B:Nat) (f:Nat->Int):Prop:=w.heap[B]?=some (.cells (cu f) T (0,0))
theorem a_.cell {w:World} {T:TypeId} {B:Nat} {f:Nat->Int} (h:a_ w T B f) {i:Nat} (hi:i<48):w.cell? ⟨B,i,none⟩=some (.int .i64 (f i)):=by
 rw[cR w B i _ _ _ h,GX f hi]
theorem a_.frozen {w:World} {T:TypeId} {B:Nat} {f:Nat->Int} (h:a_ w T B f) (i:Nat):w.frozen? ⟨B,i,none⟩=false:=by
 simp[World.frozen?,show w.heap[B]?=_ from h]
theorem a_.lt {w:World} {T:TypeId} {B:Nat} {f:Nat->Int} (h:a_ w T B f):B<w.heap.size:=(Array.getElem?_eq_some_iff.1 h).1
theorem a_.later {w w':World} {T:TypeId} {B n:Nat} {f:Nat->Int} (h:a_ w T B f) (hb:Below n w w') (hn:B<n):a_ w' T B f:=(hb.block B hn).trans h
theorem a_.set {w:World} {T:TypeId} {B:Nat} {f:Nat->Int} (h:a_ w T B f) (i:Nat) (v:Int):a_ (w.setCell ⟨B,i,none⟩ (.int .i64 v)) T B (fun j=>if j=i then v else f j):=by
 unfold a_ at h ⊢;rw[setCell_eq_setRow w B i _ _ _ _ h,ahP];exact setRow_heap w B _ _ _ _ h
theorem a_.congr {w:World} {T:TypeId} {B:Nat} {f g:Nat->Int} (h:a_ w T B f) (e:∀ i,i<48->f i=g i):a_ w T B g:=by
 unfold a_ at h ⊢;rw[<- ahO e];exact h
theorem a_.add {w:World} {T:TypeId} {B:Nat} {f:Nat->Int} (h:a_ w T B f) (i:Nat) (v u:Int) (e:u=f i+v):a_ (w.setCell ⟨B,i,none⟩ (.int .i64 u)) T B (Pu.add f i v) :=
 (h.set i u).congr fun j _=>by
  unfold Pu.add;split
  .rename_i hj;rw[hj];exact e
  .rfl
theorem a_.other {w:World} {T:TypeId} {B:Nat} {f:Nat->Int} (h:a_ w T B f) {a:Addr} (ha:B≠a.block) (v:Value):a_ (w.setCell a v) T B f :=
 (Below.heap_setCell w a v B ha).trans h
theorem a_.new (w:World) (T:TypeId) (f:Nat->Int):a_ (w.alloc (.cells (cu f) T)) T w.heap.size f:=heap_alloc_last w _
theorem a_.drew {w:World} {T:TypeId} {B:Nat} {f:Nat->Int} (h:a_ w T B f) (n:Nat):a_ (w.drewN n) T B f:=h
theorem a_.ahK {w:World} {T:TypeId} {B:Nat} {f:Nat->Int} (h:a_ w T B f) (c:Nat) (v0 v1 v2 v3 v4 v5 v6 v7:Int) :
  a_ ((((((((w.setCell ⟨B,c*8,none⟩ (.int .i64 v0)).setCell ⟨B,c*8+1,none⟩ (.int .i64 v1)).setCell ⟨B,c*8+2,none⟩ (.int .i64 v2)).setCell ⟨B,c*8+3,none⟩ (.int .i64 v3)).setCell ⟨B,c*8+4,none⟩ (.int .i64 v4)).setCell ⟨B,c*8+5,none⟩ (.int .i64 v5)).setCell ⟨B,c*8+6,none⟩ (.int .i64 v6)).setCell ⟨B,c*8+7,none⟩ (.int .i64 v7)) T B
   (fun j=>if j=c*8+7 then v7 else if j=c*8+6 then v6 else if j=c*8+5 then v5 else if j=c*8+4 then v4 else if j=c*8+3 then v3 else if j=c*8+2 then v2 else if j=c*8+1 then v1 else if j=c*8 then v0 else f j) :=
 (((((((h.set _ v0).set _ v1).set _ v2).set _ v3).set _ v4).set _ v5).set _ v6).set _ v7
theorem V3:(Tryz.prog.info? 213).map (fun i=>(i.zero,i.size))=some (some (.agg (Array.replicate 48 (.int .i64 0))),48):=by kernel_rfl
theorem Nr (w:World):(zeroValue 213).run Tryz.prog w=.ok (.agg (cu fun _=>0)) w:=by rw[ahQ];exact(zero_of_info V3).1 w
theorem V4:(Tryz.prog.info? 213).map (·.size)=some 48:=(zero_of_info V3).2
theorem LB {w:World} {B:Nat} {f:Nat->Int} (h:a_ w 213 B f):(loadVar 213 ⟨B,0,none⟩).run Tryz.prog w=.ok (.agg (cu f)) w :=
 run_loadVar_row w B 213 213 (cu f) (0,0) _ h Tryz.underlying213 rfl (by rw[uT];exact V4)
theorem ahR {w:World} {B:Nat} {f:Nat->Int} (g:Nat->Int) (h:a_ w 213 B f):(storeVar 213 ⟨B,0,none⟩ (.agg (cu g))).run Tryz.prog w=.ok () (w.setRow B (cu g)) :=
 run_storeVar_row w B 213 213 (cu f) (cu g) h (by rw[uT];exact V4) (by rw[uT,uT]) (ahN g)
theorem a_.stored {w:World} {B:Nat} {T:TypeId} {f:Nat->Int} (g:Nat->Int) (h:a_ w T B f):a_ (w.setRow B (cu g)) T B g:=setRow_heap w B _ _ _ _ h
theorem Ns {ops:Array Oper} {rest:List Oper} {op:Oper} {a:Act} {w:World} {Q:Exit->Act->World->Prop} {B:Nat} {f:Nat->Int} (h:a_ w 213 B f) (hgd:op.guard=none) (x:Operand) (ho:op.op=.load 213 x)
  (hx:a.eval x=.pointer (some ⟨B,0,none⟩)) (k:wpList Tryz.prog ops Q rest (a.put op.dst (.agg (cu f))) w):wpList Tryz.prog ops Q (op::rest) a w :=
 wpList_plain hgd fun _ hK=>by
  unfold Oper.wp execOp;simp only[ho,hx,Instr.loadAt,Instr.sureAddr,Sem.run_bind,Sem.run_pure,Result.andThen_ok,LB h];exact hK _ _ k
theorem F0 {ops:Array Oper} {rest:List Oper} {op:Oper} {a:Act} {w:World} {Q:Exit->Act->World->Prop} {B:Nat} {f:Nat->Int} (g:Nat->Int) (h:a_ w 213 B f) (hgd:op.guard=none) (x y:Operand) (ho:op.op=.store 213 x y)
  (hx:a.eval x=.pointer (some ⟨B,0,none⟩)) (hy:a.eval y=.agg (cu g)) (k:wpList Tryz.prog ops Q rest (a.put op.dst undef) (w.setRow B (cu g))):wpList Tryz.prog ops Q (op::rest) a w :=
 wpList_plain hgd fun _ hK=>by
  unfold Oper.wp execOp;simp only[ho,hx,hy,Instr.storeAt,Instr.sureAddr,Sem.run_bind,Sem.run_pure,Result.andThen_ok,ahR g h];exact hK _ _ k
end Go.Proofs.YtjolccidheflpaaGreatDoor
