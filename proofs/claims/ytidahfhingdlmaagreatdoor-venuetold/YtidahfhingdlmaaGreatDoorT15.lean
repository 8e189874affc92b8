/- Purses in memory: a block of 48 numbers, read, written, loaded and stored whole. -/
import Derived.Test.YtidahfhingdlmaaGreatDoorT07
import Derived.Test.YtidahfhingdlmaaGreatDoorT02
import Derived.Deep.WholeRow
import Derived.Laws.CopyOwn
import Derived.Deep.MidRow
namespace Go.Proofs.YtidahfhingdlmaaGreatDoor
open Go.RowKit
set_option maxRecDepth 100000
def p_row (f:Nat→Int):Array Value:=Array.ofFn (n:=48) fun i=>Value.int .i64 (f i.val)
theorem p_row_size (f:Nat→Int):(p_row f).size = 48:=by simp [p_row]
theorem p_row_at (f:Nat→Int) {i:Nat} (h:i < 48):(p_row f)[i]? = some (.int .i64 (f i)):=by
 unfold p_row;rw [Array.getElem?_ofFn];simp [h]
theorem p_row_one (f:Nat→Int):(p_row f).all (·.oneCell') = true:=by
 rw [Array.all_eq_true]
 intro i hi
 simp only [p_row,Array.getElem_ofFn]
 rfl
theorem p_row_congr {f g:Nat→Int} (h:∀ i,i < 48→f i = g i):p_row f = p_row g:=by
 unfold p_row
 congr 1
 funext i
 rw [h i.val i.isLt]
theorem p_row_set (f:Nat→Int) {i:Nat} (v:Int):(p_row f).setIfInBounds i (.int .i64 v) = p_row (fun j=>if j = i then v else f j):=by
 apply Array.ext_getElem?
 intro j
 by_cases hj:j < 48
 ·rw [p_row_at _ hj]
  by_cases e:i = j
  ·subst e
   rw [Array.getElem?_setIfInBounds_self_of_lt (by rw [p_row_size];exact hj)]
   simp
  ·rw [Array.getElem?_setIfInBounds_ne e,p_row_at _ hj]
   have:¬ j = i:=fun h=>e h.symm
   simp [this]
 ·rw [Array.getElem?_eq_none (by rw [Array.size_setIfInBounds,p_row_size];omega),Array.getElem?_eq_none (by rw [p_row_size];omega)]
theorem p_row_zero:p_row (fun _=>0) = Array.replicate 48 (.int .i64 0):=by
 apply Array.ext_getElem?
 intro j
 by_cases hj:j < 48
 ·rw [p_row_at _ hj,Array.getElem?_replicate];simp [hj]
 ·rw [Array.getElem?_eq_none (by rw [p_row_size];omega),Array.getElem?_eq_none (by simp;omega)]
def Purse (w:World) (T:TypeId) (B:Nat) (f:Nat→Int):Prop:=w.heap[B]? = some (.cells (p_row f) T (0,0))
theorem Purse.cell {w:World} {T:TypeId} {B:Nat} {f:Nat→Int} (h:Purse w T B f) {i:Nat} (hi:i < 48):w.cell? ⟨B,i,none⟩ = some (.int .i64 (f i)):=by
 rw [cell_of_row w B i _ _ _ h,p_row_at f hi]
theorem Purse.frozen {w:World} {T:TypeId} {B:Nat} {f:Nat→Int} (h:Purse w T B f) (i:Nat):w.frozen? ⟨B,i,none⟩ = false:=by
 simp [World.frozen?,show w.heap[B]? = _ from h]
theorem Purse.lt {w:World} {T:TypeId} {B:Nat} {f:Nat→Int} (h:Purse w T B f):B < w.heap.size:=(Array.getElem?_eq_some_iff.1 h).1
theorem Purse.later {w w':World} {T:TypeId} {B n:Nat} {f:Nat→Int} (h:Purse w T B f) (hb:Below n w w') (hn:B < n):Purse w' T B f:=(hb.block B hn).trans h
theorem Purse.set {w:World} {T:TypeId} {B:Nat} {f:Nat→Int} (h:Purse w T B f) (i:Nat) (v:Int):Purse (w.setCell ⟨B,i,none⟩ (.int .i64 v)) T B (fun j=>if j = i then v else f j):=by
 unfold Purse at h ⊢
 rw [setCell_eq_setRow w B i _ _ _ _ h,p_row_set]
 exact setRow_heap w B _ _ _ _ h
theorem Purse.congr {w:World} {T:TypeId} {B:Nat} {f g:Nat→Int} (h:Purse w T B f) (e:∀ i,i < 48→f i = g i):Purse w T B g:=by
 unfold Purse at h ⊢;rw [← p_row_congr e];exact h
theorem Purse.add {w:World} {T:TypeId} {B:Nat} {f:Nat→Int} (h:Purse w T B f) (i:Nat) (v u:Int) (e:u = f i + v):Purse (w.setCell ⟨B,i,none⟩ (.int .i64 u)) T B (Pu.add f i v) :=
 (h.set i u).congr fun j _=>by
  unfold Pu.add
  split
  ·rename_i hj;rw [hj];exact e
  ·rfl
theorem Purse.other {w:World} {T:TypeId} {B:Nat} {f:Nat→Int} (h:Purse w T B f) {a:Addr} (ha:B≠a.block) (v:Value):Purse (w.setCell a v) T B f :=
 (Below.heap_setCell w a v B ha).trans h
theorem Purse.new (w:World) (T:TypeId) (f:Nat→Int):Purse (w.alloc (.cells (p_row f) T)) T w.heap.size f:=heap_alloc_last w _
theorem Purse.drew {w:World} {T:TypeId} {B:Nat} {f:Nat→Int} (h:Purse w T B f) (n:Nat):Purse (w.drewN n) T B f:=h
theorem Purse.put8 {w:World} {T:TypeId} {B:Nat} {f:Nat→Int} (h:Purse w T B f) (c:Nat) (v0 v1 v2 v3 v4 v5 v6 v7:Int) :
  Purse ((((((((w.setCell ⟨B,c * 8,none⟩ (.int .i64 v0)).setCell ⟨B,c * 8 + 1,none⟩ (.int .i64 v1)).setCell ⟨B,c * 8 + 2,none⟩ (.int .i64 v2)).setCell ⟨B,c * 8 + 3,none⟩ (.int .i64 v3)).setCell ⟨B,c * 8 + 4,none⟩ (.int .i64 v4)).setCell ⟨B,c * 8 + 5,none⟩ (.int .i64 v5)).setCell ⟨B,c * 8 + 6,none⟩ (.int .i64 v6)).setCell ⟨B,c * 8 + 7,none⟩ (.int .i64 v7)) T B
   (fun j=>if j = c * 8 + 7 then v7 else if j = c * 8 + 6 then v6 else if j = c * 8 + 5 then v5 else if j = c * 8 + 4 then v4 else if j = c * 8 + 3 then v3 else if j = c * 8 + 2 then v2 else if j = c * 8 + 1 then v1 else if j = c * 8 then v0 else f j) :=
 (((((((h.set _ v0).set _ v1).set _ v2).set _ v3).set _ v4).set _ v5).set _ v6).set _ v7
theorem info55:(Tryz.prog.info? 131).map (fun i=>(i.zero,i.size)) = some (some (.agg (Array.replicate 48 (.int .i64 0))),48):=by kernel_rfl
theorem zero55 (w:World):(zeroValue 131).run Tryz.prog w = .ok (.agg (p_row fun _=>0)) w:=by rw [p_row_zero];exact (zero_of_info info55).1 w
theorem size55:(Tryz.prog.info? 131).map (·.size) = some 48:=(zero_of_info info55).2
theorem load55 {w:World} {B:Nat} {f:Nat→Int} (h:Purse w 131 B f):(loadVar 131 ⟨B,0,none⟩).run Tryz.prog w = .ok (.agg (p_row f)) w :=
 run_loadVar_row w B 131 131 (p_row f) (0,0) _ h Tryz.underlying131 rfl (by rw [p_row_size];exact size55)
theorem store55 {w:World} {B:Nat} {f:Nat→Int} (g:Nat→Int) (h:Purse w 131 B f):(storeVar 131 ⟨B,0,none⟩ (.agg (p_row g))).run Tryz.prog w = .ok () (w.setRow B (p_row g)) :=
 run_storeVar_row w B 131 131 (p_row f) (p_row g) h (by rw [p_row_size];exact size55) (by rw [p_row_size,p_row_size]) (p_row_one g)
theorem Purse.stored {w:World} {B:Nat} {T:TypeId} {f:Nat→Int} (g:Nat→Int) (h:Purse w T B f):Purse (w.setRow B (p_row g)) T B g:=setRow_heap w B _ _ _ _ h
theorem wpList_load55 {ops:Array Oper} {rest:List Oper} {op:Oper} {a:Act} {w:World} {Q:Exit→Act→World→Prop} {B:Nat} {f:Nat→Int} (h:Purse w 131 B f) (hgd:op.guard = none) (x:Operand) (ho:op.op = .load 131 x)
  (hx:a.eval x = .pointer (some ⟨B,0,none⟩)) (k:wpList Tryz.prog ops Q rest (a.put op.dst (.agg (p_row f))) w):wpList Tryz.prog ops Q (op :: rest) a w :=
 wpList_plain hgd fun _ hK=>by
  unfold Oper.wp execOp
  simp only [ho,hx,Instr.loadAt,Instr.sureAddr,Sem.run_bind,Sem.run_pure,Result.andThen_ok,load55 h]
  exact hK _ _ k
theorem wpList_store55 {ops:Array Oper} {rest:List Oper} {op:Oper} {a:Act} {w:World} {Q:Exit→Act→World→Prop} {B:Nat} {f:Nat→Int} (g:Nat→Int) (h:Purse w 131 B f) (hgd:op.guard = none) (x y:Operand) (ho:op.op = .store 131 x y)
  (hx:a.eval x = .pointer (some ⟨B,0,none⟩)) (hy:a.eval y = .agg (p_row g)) (k:wpList Tryz.prog ops Q rest (a.put op.dst undef) (w.setRow B (p_row g))):wpList Tryz.prog ops Q (op :: rest) a w :=
 wpList_plain hgd fun _ hK=>by
  unfold Oper.wp execOp
  simp only [ho,hx,hy,Instr.storeAt,Instr.sureAddr,Sem.run_bind,Sem.run_pure,Result.andThen_ok,store55 g h]
  exact hK _ _ k
end Go.Proofs.YtidahfhingdlmaaGreatDoor
