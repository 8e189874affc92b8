/- strings.Clone: the same bytes; of what was there nothing has changed. -/
import Derived.Test.YtjolccidheflpaaGreatDoorX03
import Derived.Lib.BufferWrite
import Derived.Lib.Hide
namespace Go.Proofs.YtjolccidheflpaaGreatDoor
open Go.Proofs.Tryz
set_option maxHeartbeats 8000000
set_option maxRecDepth 100000
open Go.RowKit
theorem aen(s:ByteArray)(w:World)(hlim:s.size<=281474976710656):
  Calls prog 169 #[.string s] w fun e w'=>e=.returned (.string s)/\U w w':=by
 by_cases h0:s.size=0
 .have hs:s=⟨#[]⟩:=by
   apply ByteArray.ext;exact Array.eq_empty_of_size_eq_zero h0
  subst hs;go_enter func169,ntmps169;go_wp2;go_ret;exact⟨rfl,bRq _ _⟩
 .obtain⟨i0,hi,hz0,hz1,hz2⟩:=info5
  have aeo:(prog.info? 5).map (·.size)=some 1:=by rw[hi];simp[hz1]
  have aep:prog.cellsOf 5=1:=by kernel_rfl
  obtain⟨M,hM⟩:∃M,M=madeCells (Value.int .u8 0).cells (((s.size:Nat):Int).toNat*i0.size):=⟨_,rfl⟩;have nB:M.size=s.size:=by rw[hM,size_madeCells,hz1];simp
  have ay:∀W:World,(Instr.makeSlice 115 (Z (s.size:Int)) (Z (s.size:Int))).run prog W=.ok (.slice (some (O W.heap.size 0)) s.size s.size) (W.alloc (.cells M 5)):=fun W=>by
   have h:=run_make (P:=prog) W 115 5 i0 (.int .u8 0) underlying115 hi hz0 .i64 .i64 (s.size:Int) (s.size:Int) (by omega) (by omega) (by rw[hz2];omega) (by omega);rw[<- hM]at h;simpa using h
  clear hM;have J7:=Lib.run_copy_row_string (P:=prog) (w.alloc (.cells M 5)) 115 9 3 5 w.heap.size 0 s.size s.size s M 5 underlying115 aeo (hNq w _) (E _) (by omega);obtain⟨Yqq,hY⟩:∃Yqq,Yqq=(M.toList.take 0++Lib.byteCells s.data.toList++M.toList.drop (0+s.size)).toArray:=⟨_,rfl⟩;rw[<- hY]at J7;have SB:Yqq.toList=Lib.byteCells s.data.toList:=by rw[hY,List.toList_toArray,List.take_zero,List.nil_append,List.drop_of_length_le (by rw[Array.length_toList];omega),aNq]
  have asT:Yqq.size=s.size:=by rw[<- Array.length_toList,SB,Lib.byteCells_length,<- Lib.size_eq]
  have SC:((w.alloc (.cells M 5)).setRow w.heap.size Yqq).heap[w.heap.size]?=some (.cells Yqq 5 (0,0)):=setRow_heap _ _ M _ 5 (0,0) (hNq w _);have hne:s.data.toList≠[]:=fun e=>h0 (by rw[Lib.size_eq,e];rfl);have aeq:=Lib.run_unsafeString_row (P:=prog) ((w.alloc (.cells M 5)).setRow w.heap.size Yqq) 214 3 9 5 underlying214 aep w.heap.size Yqq.size (by unfold World.shape?;rw[SC]) s.data.toList hne (by rw[<- Lib.size_eq];omega) (by rw[<- Lib.size_eq];omega)
   (fun j x hx=>Lib.cells_of_row SC Yqq.size j _ (by rw[List.take_of_length_le (by rw[Array.length_toList];exact E _),SB];simp[Lib.byteCells,hx]))
  rw[<- Lib.size_eq]at aeq;clear hY;go_enter func169,ntmps169;go_wp2;go_ret;have hb1:U w (w.alloc (.cells M 5)):=(bRq _ w).alloc (E _) _;have hb2:Below w.heap.size (w.alloc (.cells M 5)) ((w.alloc (.cells M 5)).setRow w.heap.size Yqq):=⟨rfl,rfl,rfl,by simp,fun k hk=>setRow_other _ _ _ _ (by omega)⟩;exact⟨rfl,Lib.below_freeze (hb1.trans hb2) (p:=(O w.heap.size 0)) (E _) _⟩
theorem SE(s:ByteArray)(w:World)(hlim:s.size<=281474976710656):
  Calls prog 101 #[.string s] w fun e w'=>e=.returned (.string s)/\U w w':=by
 go_enter func101,ntmps101
 go_wp2_with fail
 refine(aen s w hlim).mono ?_;rintro e w1 ⟨rfl,hb⟩;go_wp2;go_ret;exact⟨rfl,hb⟩
end Go.Proofs.YtjolccidheflpaaGreatDoor
