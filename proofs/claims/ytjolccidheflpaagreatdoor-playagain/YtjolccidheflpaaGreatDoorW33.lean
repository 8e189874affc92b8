/- strings.Clone: the same bytes; of what was there nothing has changed. -/
import Derived.Test.YtjolccidheflpaaGreatDoorW03
import Derived.Lib.Strings
import Derived.Lib.BufferWrite
import Derived.Lib.UnsafeStr
import Derived.Lib.Hide
import Derived.Laws.MakeOwn
namespace Go.Proofs.YtjolccidheflpaaGreatDoor
set_option maxHeartbeats 8000000
set_option maxRecDepth 100000
open Go.RowKit
theorem ab6 (s:ByteArray) (w:World) (hlim:s.size<=281474976710656) :
  Calls Tryz.prog 169 #[.string s] w fun e w'=>e=.returned (.string s)/\Qd w w':=by
 by_cases h0:s.size=0
 .have hs:s=⟨#[]⟩:=by
   apply ByteArray.ext;exact Array.eq_empty_of_size_eq_zero h0
  subst hs;go_enter Tryz.func169,Tryz.ntmps169;go_wp2;go_ret;exact⟨rfl,bRq _ _⟩
 .obtain⟨i0,hi,hz0,hz1,hz2⟩:=info5
  have ab7:(Tryz.prog.info? 5).map (·.size)=some 1:=by rw[hi];simp[hz1]
  have ab8:Tryz.prog.cellsOf 5=1:=by kernel_rfl
  obtain⟨M,hM⟩:∃ M,M=madeCells (Value.int .u8 0).cells (((s.size:Nat):Int).toNat*i0.size):=⟨_,rfl⟩;have yc:M.size=s.size:=by rw[hM,size_madeCells,hz1];simp
  have aP:∀ W:World,(Instr.makeSlice 115 (Qa (s.size:Int)) (Qa (s.size:Int))).run Tryz.prog W=.ok (.slice (some (Qb W.heap.size 0)) s.size s.size) (W.alloc (.cells M 5)):=fun W=>by
   have h:=run_make (P:=Tryz.prog) W 115 5 i0 (.int .u8 0) Tryz.underlying115 hi hz0 .i64 .i64 (s.size:Int) (s.size:Int) (by omega) (by omega) (by rw[hz2];omega) (by omega);rw[<- hM]at h;simpa using h
  clear hM;have Jw:=Lib.run_copy_row_string (P:=Tryz.prog) (w.alloc (.cells M 5)) 115 9 3 5 w.heap.size 0 s.size s.size s M 5 Tryz.underlying115 ab7 (hNq w _) (lRq _) (by omega);obtain⟨Y,hY⟩:∃ Y,Y=(M.toList.take 0++Lib.byteCells s.data.toList++M.toList.drop (0+s.size)).toArray:=⟨_,rfl⟩;rw[<- hY]at Jw;have QQ:Y.toList=Lib.byteCells s.data.toList:=by
   rw[hY,List.toList_toArray,List.take_zero,List.nil_append,List.drop_of_length_le (by rw[Array.length_toList];omega),aNq]
  have an5:Y.size=s.size:=by rw[<- Array.length_toList,QQ,Lib.byteCells_length,<- Lib.size_eq]
  have QR:((w.alloc (.cells M 5)).setRow w.heap.size Y).heap[w.heap.size]?=some (.cells Y 5 (0,0)):=setRow_heap _ _ M _ 5 (0,0) (hNq w _);have hne:s.data.toList≠[]:=fun e=>h0 (by rw[Lib.size_eq,e];rfl);have ab9:=Lib.run_unsafeString_row (P:=Tryz.prog) ((w.alloc (.cells M 5)).setRow w.heap.size Y) 214 3 9 5 Tryz.underlying214 ab8 w.heap.size Y.size (by unfold World.shape?;rw[QR]) s.data.toList hne (by rw[<- Lib.size_eq];omega) (by rw[<- Lib.size_eq];omega)
   (fun j x hx=>Lib.cells_of_row QR Y.size j _ (by rw[List.take_of_length_le (by rw[Array.length_toList];exact lRq _),QQ];simp[Lib.byteCells,hx]))
  rw[<- Lib.size_eq]at ab9;clear hY;go_enter Tryz.func169,Tryz.ntmps169;go_wp2;go_ret;have hb1:Qd w (w.alloc (.cells M 5)):=(bRq _ w).alloc (lRq _) _;have hb2:Below w.heap.size (w.alloc (.cells M 5)) ((w.alloc (.cells M 5)).setRow w.heap.size Y):=⟨rfl,rfl,rfl,by simp,fun k hk=>setRow_other _ _ _ _ (by omega)⟩;exact⟨rfl,Lib.below_freeze (hb1.trans hb2) (p:=(Qb w.heap.size 0)) (lRq _) _⟩
theorem QS (s:ByteArray) (w:World) (hlim:s.size<=281474976710656) :
  Calls Tryz.prog 101 #[.string s] w fun e w'=>e=.returned (.string s)/\Qd w w':=by
 go_enter Tryz.func101,Tryz.ntmps101
 go_wp2_with fail
 refine(ab6 s w hlim).mono ?_;rintro e w1 ⟨rfl,hb⟩;go_wp2;go_ret;exact⟨rfl,hb⟩
end Go.Proofs.YtjolccidheflpaaGreatDoor
