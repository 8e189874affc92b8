/- The group's Wait where its CompareAndSwap hit: the goroutine, stop by stop; behind the semaphore, whatever the slots hold. -/
import Derived.RowKit
import Derived.Conc.Comm2
import Derived.Test.YtbkjjknlphlhlaaDoorZ26
namespace Go.Proofs.YtbkjjknlphlhlaaDoor
namespace Ev
open Go.Conc Go.ConcN
open Go.ConcR (KK WgAt stA smA rd wr mk)
set_option maxRecDepth 100000
section
variable (c : Frame) (cs : List Frame) (Wg : Nat)
/-- At the conversion of the semaphore's address. -/
noncomputable def HC (T : Array Value) (S : Int) : Goroutine := adv Tryd.prog true 19 (fin (CA c cs Wg T S) (.bool true))
/-- At the word 'write'. -/
noncomputable def HW (T : Array Value) (S : Int) : Goroutine := fin (HC c cs Wg T S) (.pointer (some ⟨Wg, 1, none⟩))
noncomputable def HX (T : Array Value) (S : Int) : Goroutine := next Tryd.prog true (HW c cs Wg T S)
/-- At the semaphore. -/
noncomputable def HS (T : Array Value) (S : Int) : Goroutine := adv Tryd.prog true 23 (HX c cs Wg T S)
/-- Behind it, the slots being T. -/
noncomputable def SU (T : Array Value) : Goroutine := { fin (HS c cs Wg (slots (W2 c cs Wg)) 4294967296) (.tuple #[]) with frame := { (fin (HS c cs Wg (slots (W2 c cs Wg)) 4294967296) (.tuple #[])).frame with tmps := T } }
/-- At the load behind it. -/
noncomputable def SL (T : Array Value) : Goroutine := adv Tryd.prog true 16 (SU c cs Wg T)
variable (T : Array Value) (hT : T.size = 84) (h0 : T[0]? = some (.pointer (some ⟨Wg, 0, none⟩)))
 include hT h0
theorem s_to : Still Tryd.prog true 16 (SU c cs Wg T) (SL c cs Wg T) ∧ sits (SL c cs Wg T) = some (71, #[.pointer (some ⟨Wg, 0, none⟩)]) := by
  obtain ⟨v0, v1, v2, v3, v4, v5, v6, v7, v8, v9, v10, v11, v12, v13, v14, v15, v16, v17, v18, v19, v20, v21, v22, v23, v24, v25, v26, v27, v28, v29, v30, v31, v32, v33, v34, v35, v36, v37, v38, v39, v40, v41, v42, v43, v44, v45, v46, v47, v48, v49, v50, v51, v52, v53, v54, v55, v56, v57, v58, v59, v60, v61, v62, v63, v64, v65, v66, v67, v68, v69, v70, v71, v72, v73, v74, v75, v76, v77, v78, v79, v80, v81, v82, v83, rfl⟩ := Go.ConcX.Gen.array84 T hT
  simp only [List.getElem?_toArray, List.getElem?_cons_zero, Option.some.injEq] at h0
  subst h0
  exact ⟨still_of (fun w => by kernel_rfl) (by kernel_rfl) (by kernel_rfl), by kernel_rfl⟩
theorem s_through : ∃ g1 g2 g3, ToMark true Wg .enable (fin (SL c cs Wg T) (.int .u64 0)) g1 ∧ ToMark true Wg (.acquire (stA Wg)) g1 g2 ∧ Still Tryd.prog true 10 g2 g3 ∧ g3 = G (c.finish (.tuple #[])) cs := by
  obtain ⟨v0, v1, v2, v3, v4, v5, v6, v7, v8, v9, v10, v11, v12, v13, v14, v15, v16, v17, v18, v19, v20, v21, v22, v23, v24, v25, v26, v27, v28, v29, v30, v31, v32, v33, v34, v35, v36, v37, v38, v39, v40, v41, v42, v43, v44, v45, v46, v47, v48, v49, v50, v51, v52, v53, v54, v55, v56, v57, v58, v59, v60, v61, v62, v63, v64, v65, v66, v67, v68, v69, v70, v71, v72, v73, v74, v75, v76, v77, v78, v79, v80, v81, v82, v83, rfl⟩ := Go.ConcX.Gen.array84 T hT
  simp only [List.getElem?_toArray, List.getElem?_cons_zero, Option.some.injEq] at h0
  subst h0
  generalize hg : SL c cs Wg _ = g0
  refine ⟨next Tryd.prog true (adv Tryd.prog true 11 (fin g0 (.int .u64 0))), next Tryd.prog true (fin (adv Tryd.prog true 3 (next Tryd.prog true (adv Tryd.prog true 11 (fin g0 (.int .u64 0))))) (.pointer (some ⟨Wg, 0, none⟩))), _, ⟨11, _, (still_of (fun w => ?_) ?_ ?_).idle, ?_, fun w => ?_⟩,
    ⟨4, fin (adv Tryd.prog true 3 (next Tryd.prog true (adv Tryd.prog true 11 (fin g0 (.int .u64 0))))) (.pointer (some ⟨Wg, 0, none⟩)), Idle.trans (n := 3) (m := 1) (still_of (n := 3) (fun w => ?_) ?_ ?_).idle (Idle.one (es := #[]) ?_ (fun w hw => ?_) (by simp)), ?_, fun w => ?_⟩, still_of (n := 10) (fun w => ?_) ?_ ?_, ?_⟩
  all_goals subst hg
  rotate_left 9
  · obtain ⟨v, hv⟩ := live0 hw
    exact conv_step (src := 104) (dst := 90) (t := 83) (by kernel_rfl) (by kernel_rfl) (by kernel_rfl) (by kernel_rfl) hv
  all_goals kernel_rfl
end
end Ev
end Go.Proofs.YtbkjjknlphlhlaaDoor
namespace Go.Proofs.YtbkjjknlphlhlaaDoor
namespace Ev
open Go.Conc Go.ConcN
open Go.ConcR (KK WgAt stA smA rd wr mk)
set_option maxRecDepth 100000
section
variable (c : Frame) (cs : List Frame) (Wg : Nat) (T : Array Value) (hT : T.size = 84) (h0 : T[0]? = some (.pointer (some ⟨Wg, 0, none⟩))) (S : Int) (hS : S = 4294967296 ∨ S = 8589934592 ∨ S = 12884901888 ∨ S = 17179869184)
 include hT h0 hS
theorem w_hit_a : Still Tryd.prog true 19 (fin (CA c cs Wg T S) (.bool true)) (HC c cs Wg T S) ∧ (HC c cs Wg T S).status = .running ∧ convOf (HC c cs Wg T S) = some (111, 90, .pointer (some ⟨Wg, 1, none⟩)) ∧ (HW c cs Wg T S).status = .running ∧ (∀ w, stepG Tryd.prog true (HW c cs Wg T S) w = .go (HX c cs Wg T S) w #[mk (.write (smA Wg))]) ∧
    Still Tryd.prog true 23 (HX c cs Wg T S) (HS c cs Wg T S) ∧ (HS c cs Wg T S).status = .running ∧ (∃ l, sits (HS c cs Wg T S) = some (63, ⟨.pointer (some ⟨Wg, 1, none⟩) :: l⟩)) ∧ (HS c cs Wg T S).offers = none ∧
    (∃ U, fin (HS c cs Wg T S) (.tuple #[]) = SU c cs Wg U ∧ U.size = 84 ∧ U[0]? = some (.pointer (some ⟨Wg, 0, none⟩))) := by
  obtain ⟨v0, v1, v2, v3, v4, v5, v6, v7, v8, v9, v10, v11, v12, v13, v14, v15, v16, v17, v18, v19, v20, v21, v22, v23, v24, v25, v26, v27, v28, v29, v30, v31, v32, v33, v34, v35, v36, v37, v38, v39, v40, v41, v42, v43, v44, v45, v46, v47, v48, v49, v50, v51, v52, v53, v54, v55, v56, v57, v58, v59, v60, v61, v62, v63, v64, v65, v66, v67, v68, v69, v70, v71, v72, v73, v74, v75, v76, v77, v78, v79, v80, v81, v82, v83, rfl⟩ := Go.ConcX.Gen.array84 T hT
  simp only [List.getElem?_toArray, List.getElem?_cons_zero, Option.some.injEq] at h0
  subst h0
  refine ⟨still_of (n := 19) (fun w => ?_) ?_ ?_, ?_, ?_, ?_, fun w => ?_, still_of (n := 23) (fun w => ?_) ?_ ?_, ?_, ⟨[.bool false], ?_⟩, ?_, ⟨(fin (HS c cs Wg #[.pointer (some ⟨Wg, 0, none⟩), v1, v2, v3, v4, v5, v6, v7, v8, v9, v10, v11, v12, v13, v14, v15, v16, v17, v18, v19, v20, v21, v22, v23, v24, v25, v26, v27, v28, v29, v30, v31, v32, v33, v34, v35, v36, v37, v38, v39, v40, v41, v42, v43, v44, v45, v46, v47, v48, v49, v50, v51, v52, v53, v54, v55, v56, v57, v58, v59, v60, v61, v62, v63, v64, v65, v66, v67, v68, v69, v70, v71, v72, v73, v74, v75, v76, v77, v78, v79, v80, v81, v82, v83] S) (.tuple #[])).frame.tmps, ?_, ?_, ?_⟩⟩
  · rcases hS with rfl | rfl | rfl | rfl <;> kernel_rfl
  · rcases hS with rfl | rfl | rfl | rfl <;> kernel_rfl
  · rcases hS with rfl | rfl | rfl | rfl <;> kernel_rfl
  · rcases hS with rfl | rfl | rfl | rfl <;> kernel_rfl
  · rcases hS with rfl | rfl | rfl | rfl <;> kernel_rfl
  · rcases hS with rfl | rfl | rfl | rfl <;> kernel_rfl
  · rcases hS with rfl | rfl | rfl | rfl <;> kernel_rfl
  · rcases hS with rfl | rfl | rfl | rfl <;> kernel_rfl
  · rcases hS with rfl | rfl | rfl | rfl <;> kernel_rfl
  · rcases hS with rfl | rfl | rfl | rfl <;> kernel_rfl
  · rcases hS with rfl | rfl | rfl | rfl <;> kernel_rfl
  · rcases hS with rfl | rfl | rfl | rfl <;> kernel_rfl
  · rcases hS with rfl | rfl | rfl | rfl <;> kernel_rfl
  · rcases hS with rfl | rfl | rfl | rfl <;> kernel_rfl
  · rcases hS with rfl | rfl | rfl | rfl <;> kernel_rfl
  · rcases hS with rfl | rfl | rfl | rfl <;> kernel_rfl
end
end Ev
end Go.Proofs.YtbkjjknlphlhlaaDoor
namespace Go.Proofs.YtbkjjknlphlhlaaDoor
namespace Ev
open Go.Conc Go.ConcN
open Go.ConcR (KK WgAt stA smA rd wr mk)
set_option maxRecDepth 100000
section
variable (c : Frame) (cs : List Frame) (Wg : Nat) (T : Array Value) (hT : T.size = 84) (h0 : T[0]? = some (.pointer (some ⟨Wg, 0, none⟩))) (S : Int) (hS : S = 21474836480 ∨ S = 25769803776 ∨ S = 30064771072 ∨ S = 34359738368)
 include hT h0 hS
theorem w_hit_b : Still Tryd.prog true 19 (fin (CA c cs Wg T S) (.bool true)) (HC c cs Wg T S) ∧ (HC c cs Wg T S).status = .running ∧ convOf (HC c cs Wg T S) = some (111, 90, .pointer (some ⟨Wg, 1, none⟩)) ∧ (HW c cs Wg T S).status = .running ∧ (∀ w, stepG Tryd.prog true (HW c cs Wg T S) w = .go (HX c cs Wg T S) w #[mk (.write (smA Wg))]) ∧
    Still Tryd.prog true 23 (HX c cs Wg T S) (HS c cs Wg T S) ∧ (HS c cs Wg T S).status = .running ∧ (∃ l, sits (HS c cs Wg T S) = some (63, ⟨.pointer (some ⟨Wg, 1, none⟩) :: l⟩)) ∧ (HS c cs Wg T S).offers = none ∧
    (∃ U, fin (HS c cs Wg T S) (.tuple #[]) = SU c cs Wg U ∧ U.size = 84 ∧ U[0]? = some (.pointer (some ⟨Wg, 0, none⟩))) := by
  obtain ⟨v0, v1, v2, v3, v4, v5, v6, v7, v8, v9, v10, v11, v12, v13, v14, v15, v16, v17, v18, v19, v20, v21, v22, v23, v24, v25, v26, v27, v28, v29, v30, v31, v32, v33, v34, v35, v36, v37, v38, v39, v40, v41, v42, v43, v44, v45, v46, v47, v48, v49, v50, v51, v52, v53, v54, v55, v56, v57, v58, v59, v60, v61, v62, v63, v64, v65, v66, v67, v68, v69, v70, v71, v72, v73, v74, v75, v76, v77, v78, v79, v80, v81, v82, v83, rfl⟩ := Go.ConcX.Gen.array84 T hT
  simp only [List.getElem?_toArray, List.getElem?_cons_zero, Option.some.injEq] at h0
  subst h0
  refine ⟨still_of (n := 19) (fun w => ?_) ?_ ?_, ?_, ?_, ?_, fun w => ?_, still_of (n := 23) (fun w => ?_) ?_ ?_, ?_, ⟨[.bool false], ?_⟩, ?_, ⟨(fin (HS c cs Wg #[.pointer (some ⟨Wg, 0, none⟩), v1, v2, v3, v4, v5, v6, v7, v8, v9, v10, v11, v12, v13, v14, v15, v16, v17, v18, v19, v20, v21, v22, v23, v24, v25, v26, v27, v28, v29, v30, v31, v32, v33, v34, v35, v36, v37, v38, v39, v40, v41, v42, v43, v44, v45, v46, v47, v48, v49, v50, v51, v52, v53, v54, v55, v56, v57, v58, v59, v60, v61, v62, v63, v64, v65, v66, v67, v68, v69, v70, v71, v72, v73, v74, v75, v76, v77, v78, v79, v80, v81, v82, v83] S) (.tuple #[])).frame.tmps, ?_, ?_, ?_⟩⟩
  · rcases hS with rfl | rfl | rfl | rfl <;> kernel_rfl
  · rcases hS with rfl | rfl | rfl | rfl <;> kernel_rfl
  · rcases hS with rfl | rfl | rfl | rfl <;> kernel_rfl
  · rcases hS with rfl | rfl | rfl | rfl <;> kernel_rfl
  · rcases hS with rfl | rfl | rfl | rfl <;> kernel_rfl
  · rcases hS with rfl | rfl | rfl | rfl <;> kernel_rfl
  · rcases hS with rfl | rfl | rfl | rfl <;> kernel_rfl
  · rcases hS with rfl | rfl | rfl | rfl <;> kernel_rfl
  · rcases hS with rfl | rfl | rfl | rfl <;> kernel_rfl
  · rcases hS with rfl | rfl | rfl | rfl <;> kernel_rfl
  · rcases hS with rfl | rfl | rfl | rfl <;> kernel_rfl
  · rcases hS with rfl | rfl | rfl | rfl <;> kernel_rfl
  · rcases hS with rfl | rfl | rfl | rfl <;> kernel_rfl
  · rcases hS with rfl | rfl | rfl | rfl <;> kernel_rfl
  · rcases hS with rfl | rfl | rfl | rfl <;> kernel_rfl
  · rcases hS with rfl | rfl | rfl | rfl <;> kernel_rfl
end
end Ev
end Go.Proofs.YtbkjjknlphlhlaaDoor
namespace Go.Proofs.YtbkjjknlphlhlaaDoor
namespace Ev
open Go.Conc Go.ConcN
open Go.ConcR (KK WgAt stA smA rd wr mk)
set_option maxRecDepth 100000
section
variable (c : Frame) (cs : List Frame) (Wg : Nat) (T : Array Value) (hT : T.size = 84) (h0 : T[0]? = some (.pointer (some ⟨Wg, 0, none⟩))) (S : Int) (hS : S = 38654705664 ∨ S = 42949672960 ∨ S = 47244640256 ∨ S = 51539607552)
 include hT h0 hS
theorem w_hit_c : Still Tryd.prog true 19 (fin (CA c cs Wg T S) (.bool true)) (HC c cs Wg T S) ∧ (HC c cs Wg T S).status = .running ∧ convOf (HC c cs Wg T S) = some (111, 90, .pointer (some ⟨Wg, 1, none⟩)) ∧ (HW c cs Wg T S).status = .running ∧ (∀ w, stepG Tryd.prog true (HW c cs Wg T S) w = .go (HX c cs Wg T S) w #[mk (.write (smA Wg))]) ∧
    Still Tryd.prog true 23 (HX c cs Wg T S) (HS c cs Wg T S) ∧ (HS c cs Wg T S).status = .running ∧ (∃ l, sits (HS c cs Wg T S) = some (63, ⟨.pointer (some ⟨Wg, 1, none⟩) :: l⟩)) ∧ (HS c cs Wg T S).offers = none ∧
    (∃ U, fin (HS c cs Wg T S) (.tuple #[]) = SU c cs Wg U ∧ U.size = 84 ∧ U[0]? = some (.pointer (some ⟨Wg, 0, none⟩))) := by
  obtain ⟨v0, v1, v2, v3, v4, v5, v6, v7, v8, v9, v10, v11, v12, v13, v14, v15, v16, v17, v18, v19, v20, v21, v22, v23, v24, v25, v26, v27, v28, v29, v30, v31, v32, v33, v34, v35, v36, v37, v38, v39, v40, v41, v42, v43, v44, v45, v46, v47, v48, v49, v50, v51, v52, v53, v54, v55, v56, v57, v58, v59, v60, v61, v62, v63, v64, v65, v66, v67, v68, v69, v70, v71, v72, v73, v74, v75, v76, v77, v78, v79, v80, v81, v82, v83, rfl⟩ := Go.ConcX.Gen.array84 T hT
  simp only [List.getElem?_toArray, List.getElem?_cons_zero, Option.some.injEq] at h0
  subst h0
  refine ⟨still_of (n := 19) (fun w => ?_) ?_ ?_, ?_, ?_, ?_, fun w => ?_, still_of (n := 23) (fun w => ?_) ?_ ?_, ?_, ⟨[.bool false], ?_⟩, ?_, ⟨(fin (HS c cs Wg #[.pointer (some ⟨Wg, 0, none⟩), v1, v2, v3, v4, v5, v6, v7, v8, v9, v10, v11, v12, v13, v14, v15, v16, v17, v18, v19, v20, v21, v22, v23, v24, v25, v26, v27, v28, v29, v30, v31, v32, v33, v34, v35, v36, v37, v38, v39, v40, v41, v42, v43, v44, v45, v46, v47, v48, v49, v50, v51, v52, v53, v54, v55, v56, v57, v58, v59, v60, v61, v62, v63, v64, v65, v66, v67, v68, v69, v70, v71, v72, v73, v74, v75, v76, v77, v78, v79, v80, v81, v82, v83] S) (.tuple #[])).frame.tmps, ?_, ?_, ?_⟩⟩
  · rcases hS with rfl | rfl | rfl | rfl <;> kernel_rfl
  · rcases hS with rfl | rfl | rfl | rfl <;> kernel_rfl
  · rcases hS with rfl | rfl | rfl | rfl <;> kernel_rfl
  · rcases hS with rfl | rfl | rfl | rfl <;> kernel_rfl
  · rcases hS with rfl | rfl | rfl | rfl <;> kernel_rfl
  · rcases hS with rfl | rfl | rfl | rfl <;> kernel_rfl
  · rcases hS with rfl | rfl | rfl | rfl <;> kernel_rfl
  · rcases hS with rfl | rfl | rfl | rfl <;> kernel_rfl
  · rcases hS with rfl | rfl | rfl | rfl <;> kernel_rfl
  · rcases hS with rfl | rfl | rfl | rfl <;> kernel_rfl
  · rcases hS with rfl | rfl | rfl | rfl <;> kernel_rfl
  · rcases hS with rfl | rfl | rfl | rfl <;> kernel_rfl
  · rcases hS with rfl | rfl | rfl | rfl <;> kernel_rfl
  · rcases hS with rfl | rfl | rfl | rfl <;> kernel_rfl
  · rcases hS with rfl | rfl | rfl | rfl <;> kernel_rfl
  · rcases hS with rfl | rfl | rfl | rfl <;> kernel_rfl
end
end Ev
end Go.Proofs.YtbkjjknlphlhlaaDoor
namespace Go.Proofs.YtbkjjknlphlhlaaDoor
namespace Ev
open Go.Conc Go.ConcN
open Go.ConcR (KK WgAt stA smA rd wr mk)
set_option maxRecDepth 100000
section
variable (c : Frame) (cs : List Frame) (Wg : Nat) (T : Array Value) (hT : T.size = 84) (h0 : T[0]? = some (.pointer (some ⟨Wg, 0, none⟩))) (S : Int) (hS : S = 55834574848 ∨ S = 60129542144 ∨ S = 64424509440 ∨ S = 68719476736)
 include hT h0 hS
theorem w_hit_d : Still Tryd.prog true 19 (fin (CA c cs Wg T S) (.bool true)) (HC c cs Wg T S) ∧ (HC c cs Wg T S).status = .running ∧ convOf (HC c cs Wg T S) = some (111, 90, .pointer (some ⟨Wg, 1, none⟩)) ∧ (HW c cs Wg T S).status = .running ∧ (∀ w, stepG Tryd.prog true (HW c cs Wg T S) w = .go (HX c cs Wg T S) w #[mk (.write (smA Wg))]) ∧
    Still Tryd.prog true 23 (HX c cs Wg T S) (HS c cs Wg T S) ∧ (HS c cs Wg T S).status = .running ∧ (∃ l, sits (HS c cs Wg T S) = some (63, ⟨.pointer (some ⟨Wg, 1, none⟩) :: l⟩)) ∧ (HS c cs Wg T S).offers = none ∧
    (∃ U, fin (HS c cs Wg T S) (.tuple #[]) = SU c cs Wg U ∧ U.size = 84 ∧ U[0]? = some (.pointer (some ⟨Wg, 0, none⟩))) := by
  obtain ⟨v0, v1, v2, v3, v4, v5, v6, v7, v8, v9, v10, v11, v12, v13, v14, v15, v16, v17, v18, v19, v20, v21, v22, v23, v24, v25, v26, v27, v28, v29, v30, v31, v32, v33, v34, v35, v36, v37, v38, v39, v40, v41, v42, v43, v44, v45, v46, v47, v48, v49, v50, v51, v52, v53, v54, v55, v56, v57, v58, v59, v60, v61, v62, v63, v64, v65, v66, v67, v68, v69, v70, v71, v72, v73, v74, v75, v76, v77, v78, v79, v80, v81, v82, v83, rfl⟩ := Go.ConcX.Gen.array84 T hT
  simp only [List.getElem?_toArray, List.getElem?_cons_zero, Option.some.injEq] at h0
  subst h0
  refine ⟨still_of (n := 19) (fun w => ?_) ?_ ?_, ?_, ?_, ?_, fun w => ?_, still_of (n := 23) (fun w => ?_) ?_ ?_, ?_, ⟨[.bool false], ?_⟩, ?_, ⟨(fin (HS c cs Wg #[.pointer (some ⟨Wg, 0, none⟩), v1, v2, v3, v4, v5, v6, v7, v8, v9, v10, v11, v12, v13, v14, v15, v16, v17, v18, v19, v20, v21, v22, v23, v24, v25, v26, v27, v28, v29, v30, v31, v32, v33, v34, v35, v36, v37, v38, v39, v40, v41, v42, v43, v44, v45, v46, v47, v48, v49, v50, v51, v52, v53, v54, v55, v56, v57, v58, v59, v60, v61, v62, v63, v64, v65, v66, v67, v68, v69, v70, v71, v72, v73, v74, v75, v76, v77, v78, v79, v80, v81, v82, v83] S) (.tuple #[])).frame.tmps, ?_, ?_, ?_⟩⟩
  · rcases hS with rfl | rfl | rfl | rfl <;> kernel_rfl
  · rcases hS with rfl | rfl | rfl | rfl <;> kernel_rfl
  · rcases hS with rfl | rfl | rfl | rfl <;> kernel_rfl
  · rcases hS with rfl | rfl | rfl | rfl <;> kernel_rfl
  · rcases hS with rfl | rfl | rfl | rfl <;> kernel_rfl
  · rcases hS with rfl | rfl | rfl | rfl <;> kernel_rfl
  · rcases hS with rfl | rfl | rfl | rfl <;> kernel_rfl
  · rcases hS with rfl | rfl | rfl | rfl <;> kernel_rfl
  · rcases hS with rfl | rfl | rfl | rfl <;> kernel_rfl
  · rcases hS with rfl | rfl | rfl | rfl <;> kernel_rfl
  · rcases hS with rfl | rfl | rfl | rfl <;> kernel_rfl
  · rcases hS with rfl | rfl | rfl | rfl <;> kernel_rfl
  · rcases hS with rfl | rfl | rfl | rfl <;> kernel_rfl
  · rcases hS with rfl | rfl | rfl | rfl <;> kernel_rfl
  · rcases hS with rfl | rfl | rfl | rfl <;> kernel_rfl
  · rcases hS with rfl | rfl | rfl | rfl <;> kernel_rfl
end
end Ev
end Go.Proofs.YtbkjjknlphlhlaaDoor
namespace Go.Proofs.YtbkjjknlphlhlaaDoor
namespace Mc
open Go.Conc Go.ConcN Hd Sim Wy Ev
open Go.ConcR (KK WgAt stA smA mk)
set_option maxRecDepth 100000
section
variable (c : Frame) (cs : List Frame) (Wg : Nat) (T : Array Value) (hT : T.size = 84) (h0 : T[0]? = some (.pointer (some ⟨Wg, 0, none⟩))) {v : Nat} (h1 : 1 ≤ v) (h2 : v ≤ 16)
 include hT h0 h1 h2
theorem w_ca_all : Idle Tryd.prog true (Live Wg) (Said Wg) 48 (fin (LD c cs Wg T) (.int .u64 ((v : Int) * KK))) (CA c cs Wg T ((v : Int) * KK)) ∧ sits (CA c cs Wg T ((v : Int) * KK)) = some (73, #[.pointer (some ⟨Wg, 0, none⟩), .int .u64 ((v : Int) * KK), .int .u64 ((v : Int) * KK + 1)]) := by
  have hK : KK = 4294967296 := rfl
  by_cases a : v ≤ 4
  · exact w_ca_a c cs Wg T hT h0 _ (by rw [hK]; omega)
  · by_cases a : v ≤ 8
    · exact w_ca_b c cs Wg T hT h0 _ (by rw [hK]; omega)
    · by_cases a : v ≤ 12
      · exact w_ca_c c cs Wg T hT h0 _ (by rw [hK]; omega)
      · exact w_ca_d c cs Wg T hT h0 _ (by rw [hK]; omega)
theorem w_miss_all : Idle Tryd.prog true (Live Wg) (Said Wg) 25 (fin (CA c cs Wg T ((v : Int) * KK)) (.bool false)) (LD c cs Wg (NT c cs Wg T ((v : Int) * KK))) ∧ (NT c cs Wg T ((v : Int) * KK)).size = 84 ∧ (NT c cs Wg T ((v : Int) * KK))[0]? = some (.pointer (some ⟨Wg, 0, none⟩)) := by
  have hK : KK = 4294967296 := rfl
  by_cases a : v ≤ 4
  · exact w_miss_a c cs Wg T hT h0 _ (by rw [hK]; omega)
  · by_cases a : v ≤ 8
    · exact w_miss_b c cs Wg T hT h0 _ (by rw [hK]; omega)
    · by_cases a : v ≤ 12
      · exact w_miss_c c cs Wg T hT h0 _ (by rw [hK]; omega)
      · exact w_miss_d c cs Wg T hT h0 _ (by rw [hK]; omega)
theorem w_hit_all {S : Int} (hS : S = (v : Int) * KK) : Still Tryd.prog true 19 (fin (CA c cs Wg T S) (.bool true)) (HC c cs Wg T S) ∧ (HC c cs Wg T S).status = .running ∧ convOf (HC c cs Wg T S) = some (111, 90, .pointer (some ⟨Wg, 1, none⟩)) ∧ (HW c cs Wg T S).status = .running ∧ (∀ w, stepG Tryd.prog true (HW c cs Wg T S) w = .go (HX c cs Wg T S) w #[mk (.write (smA Wg))]) ∧
    Still Tryd.prog true 23 (HX c cs Wg T S) (HS c cs Wg T S) ∧ (HS c cs Wg T S).status = .running ∧ (∃ l, sits (HS c cs Wg T S) = some (63, ⟨.pointer (some ⟨Wg, 1, none⟩) :: l⟩)) ∧ (HS c cs Wg T S).offers = none ∧
    (∃ U, fin (HS c cs Wg T S) (.tuple #[]) = SU c cs Wg U ∧ U.size = 84 ∧ U[0]? = some (.pointer (some ⟨Wg, 0, none⟩))) := by
  subst hS
  have hK : KK = 4294967296 := rfl
  by_cases a : v ≤ 4
  · exact w_hit_a c cs Wg T hT h0 _ (by rw [hK]; omega)
  · by_cases a : v ≤ 8
    · exact w_hit_b c cs Wg T hT h0 _ (by rw [hK]; omega)
    · by_cases a : v ≤ 12
      · exact w_hit_c c cs Wg T hT h0 _ (by rw [hK]; omega)
      · exact w_hit_d c cs Wg T hT h0 _ (by rw [hK]; omega)
end
section
variable (E : Env) (CW : Vals → Frame → Prop) (cs : List Frame)
/-- At Wait's load; the frame below is one of CW's. -/
def LdW (val : Vals) (g : Goroutine) : Prop := ∃ c T, CW val c ∧ T.size = 84 ∧ T[0]? = some (.pointer (some ⟨E.Wg, 0, none⟩)) ∧ g = LD c cs E.Wg T
/-- Behind Wait: some still steps from its caller. -/
def FinW (val : Vals) (g : Goroutine) : Prop := ∃ c n, CW val c ∧ Still Tryd.prog true n g (G (c.finish (.tuple #[])) cs)
theorem still_run {P : Program} {main : Bool} {n : Nat} {g g' : Goroutine} (h : Still P main n g g') (hr : g'.status = .running) : g.status = .running := by
  cases n with
  | zero => cases h; exact hr
  | succ n => exact h.1
theorem finW_run {val : Vals} {g : Goroutine} (h : FinW CW cs val g) : g.status = .running := by
  obtain ⟨c, n, _, h⟩ := h
  exact still_run h rfl
end
section
variable {E : Env} {F : Fam} {CW : Vals → Frame → Prop} {cs : List Frame} (hL : F.Ld = LdW E CW cs) (hF : F.Fin = FinW CW cs) {val : Vals} {c : Frame} (hc : CW val c)
 include hF hc
/-- To the join. -/
theorem way_join {g g1 g2 g3 : Goroutine} {n : Nat} (h1 : ToMark true E.Wg .enable g g1) (h2 : ToMark true E.Wg (.acquire (stA E.Wg)) g1 g2) (h3 : Still Tryd.prog true n g2 g3) (h4 : g3 = G (c.finish (.tuple #[])) cs) (w : World) : WayE Tryd.prog E true (SWe Tryd.prog E F val) no no g w :=
  way_mark h1 fun a ha hst _ => ⟨ha, g1, fun w _ => hst w, fun w _ => way_mark h2 fun b hb hst2 _ => ⟨hb, g2, fun w _ => hst2 w, fun w _ => by rw [hF]; exact ⟨c, n, hc, h4 ▸ h3⟩⟩⟩
 include hL
theorem ld_wait {T : Array Value} (hT : T.size = 84) (h0 : T[0]? = some (.pointer (some ⟨E.Wg, 0, none⟩))) (w : World) (v : Nat) (hw : WgAt 83 E.Wg w ((v : Int) * KK) 0) (hv : v ≤ 16) :
    (v = 0 → Acts Tryd.prog E true (LD c cs E.Wg T) w 0 0 fun g' w' => WayE Tryd.prog E true (SWe Tryd.prog E F val) no no g' w') ∧ (1 ≤ v → Acts Tryd.prog E true (LD c cs E.Wg T) w ((v : Int) * KK) 0 fun g' w' => WayE Tryd.prog E true (SWc Tryd.prog E F val v) no no g' w') := by
  refine ⟨fun h => ?_, fun h => ?_⟩
  · subst h
    have hw : WgAt 83 E.Wg w 0 0 := by simpa using hw
    obtain ⟨g1, g2, g3, a1, a2, a3, a4⟩ := w_through c cs E.Wg T hT h0
    have hj : WayE Tryd.prog E true (SWe Tryd.prog E F val) no no (fin (LD c cs E.Wg T) (.int .u64 0)) w := way_join hF hc a1 a2 a3 a4 w
    exact load_acts (w_sits c cs E.Wg T) hw hj
  · refine load_acts (w_sits c cs E.Wg T) hw ?_
    obtain ⟨a1, a2⟩ := w_ca_all c cs E.Wg T hT h0 h hv
    have hrun := sits_run a2
    refine Way.idle (kn_idle a1) (way_stop fun w0 => ⟨hrun, fun w s hk hwi hs => ⟨fun e => ?_, fun e => ?_⟩⟩)
    · subst e
      obtain ⟨b1, b2, b3, b4, b5, b6, b7, ⟨l, b8⟩, b9, U, c1, c2, c3⟩ := w_hit_all c cs E.Wg T hT h0 h hv rfl
      refine hit_acts a2 hwi fun w' => ?_
      refine Way.idle (kn_idle (Idle.trans b1.idle (Idle.trans (Idle.one (es := #[]) (g1 := HW c cs E.Wg T ((s : Int) * KK)) b2 (fun w hw => ?_) (by simp)) (Idle.trans (Idle.one (es := #[mk (.write (smA E.Wg))]) b4 (fun w _ => b5 w) ?_) b6.idle)))) (way_stop fun w1 => ⟨b7, b9, fun w st hk hw => ?_, fun w hk hw => ?_⟩)
      · obtain ⟨x, hx⟩ := live1 hw
        exact conv_step (src := 111) (dst := 90) (t := 81) b3 (by kernel_rfl) (by kernel_rfl) (by kernel_rfl) hx
      · intro e he
        rw [Array.mem_singleton] at he
        exact ⟨smA E.Wg, rfl, .inr he⟩
      · exact sem_wait b8 hw.cellSm
      · refine take_acts b8 hw fun w' => ?_
        rw [c1]
        obtain ⟨d1, d2⟩ := s_to c cs E.Wg U c2 c3
        obtain ⟨g1, g2, g3, e1, e2, e3, e4⟩ := s_through c cs E.Wg U c2 c3
        have hj : ∀ w, WayE Tryd.prog E true (SWe Tryd.prog E F val) no no (fin (SL c cs E.Wg U) (.int .u64 0)) w := fun w => way_join hF hc e1 e2 e3 e4 w
        have hr := sits_run d2
        have hst : ∀ w : World, SWl2 Tryd.prog E F val no no (SL c cs E.Wg U) w := fun _ => ⟨hr, fun w hk hw => load_acts d2 hw (hj w)⟩
        exact Way.idle (kn_idle d1.idle) (way_stop hst)
    · obtain ⟨b1, b2, b3⟩ := w_miss_all c cs E.Wg T hT h0 h hv
      refine miss_acts a2 hwi (fun x => e ?_) (Way.idle (kn_idle b1) (way_stop fun w1 => ?_))
      · have : (KK : Int) = 4294967296 := rfl
        rw [this] at x; omega
      · show F.Ld val _
        rw [hL]; exact ⟨c, _, hc, b2, b3, rfl⟩
 omit hF in
theorem way_wait (w : World) : WayE Tryd.prog E true (SWd Tryd.prog E F val) no no (W0 c cs E.Wg) w := by
  refine way_mark (w_dis c cs E.Wg) fun a ha hst _ => ⟨ha, _, fun w _ => hst w, fun w _ => Way.idle (kn_idle (w_to c cs E.Wg)) (way_stop fun w1 => ?_)⟩
  obtain ⟨h1, h2, h3⟩ := w_first c cs E.Wg
  show F.Ld val _
  rw [hL]; exact ⟨c, _, hc, h2, h3, h1⟩
end
end Mc
end Go.Proofs.YtbkjjknlphlhlaaDoor
namespace Go.Proofs.YtbkjjknlphlhlaaDoor
namespace Ev
open Go.Conc Go.RowKit
set_option maxRecDepth 100000
def loadOf (g : Goroutine) : Option (TypeId × Value) := match curOp g with
  | some { op := .load t x, .. } => some (t, g.frame.eval x)
  | _ => none
section
variable {P : Program} {main : Bool} {g : Goroutine} {w : World}
theorem load_one {t : TypeId} {ad : Addr} {v : Value} (h : loadOf g = some (t, .pointer (some ad))) (hs : ∀ w : World, Sem.run P (sizeOf t) w = .ok 1 w) (ha : ∀ w : World, Sem.run P (isAgg t) w = .ok false w) (hc : w.cell? ad = some v) (hq : (P.funcs[g.frame.fn]?).any (·.norace) = false) :
    stepG P main g w = .go (fin g v) w #[⟨.cell ad, false, false⟩] := by
  unfold loadOf at h
  split at h
  · rename_i d t' x ty ps af gd e
    simp only [Option.some.injEq, Prod.mk.injEq] at h
    obtain ⟨rfl, hx⟩ := h
    have hr : (execOp g.frame.eval { dst := d, op := .load t' x, type := ty, pos := ps, after := af, guard := gd }).run P w = .ok (.value v) w := by
      unfold execOp
      simp only [hx]
      go_simp
    have he : (execOp g.frame.eval { dst := d, op := .load t' x, type := ty, pos := ps, after := af, guard := gd }).events P w #[] = #[⟨.cell ad, false, false⟩] := by
      unfold execOp
      simp only [hx]
      simp [go_sem, *]
    rw [opv_step e hr, he, seen_eq hq (by simp)]
  · cases h
end
end Ev
end Go.Proofs.YtbkjjknlphlhlaaDoor
namespace Go.Proofs.YtbkjjknlphlhlaaDoor
namespace Ev
open Go.Conc Go.ConcN
set_option maxRecDepth 100000
section
variable (wg nb db tb ob : Addr) (cn : Nat)
noncomputable def B0 : Goroutine := born Tryd.prog { target := .fn (.func 33) #[.pointer (some wg), .pointer (some nb), .pointer (some db), .pointer (some tb), .pointer (some ob)], args := #[] }
noncomputable def B1 : Goroutine := adv Tryd.prog false 7 (B0 wg nb db tb ob)
/-- At its receive. -/
noncomputable def B2 : Goroutine := adv Tryd.prog false 5 (fin (B1 wg nb db tb ob) (.chan (some cn)))
noncomputable def B3 : Goroutine := next Tryd.prog false (B2 wg nb db tb ob cn)
theorem b_to : Still Tryd.prog false 7 (B0 wg nb db tb ob) (B1 wg nb db tb ob) := still_of (fun w => by kernel_rfl) (by kernel_rfl) (by kernel_rfl)
theorem b_load : loadOf (B1 wg nb db tb ob) = some (72, .pointer (some nb)) := by kernel_rfl
theorem b_on : Still Tryd.prog false 5 (fin (B1 wg nb db tb ob) (.chan (some cn))) (B2 wg nb db tb ob cn) := still_of (fun w => by kernel_rfl) (by kernel_rfl) (by kernel_rfl)
theorem b_recv (w : World) : stepG Tryd.prog false (B2 wg nb db tb ob cn) w = .comm (B3 wg nb db tb ob cn) #[rcase cn (.int .i64 0)] true (.recv true) w #[] := by kernel_rfl
end
end Ev
end Go.Proofs.YtbkjjknlphlhlaaDoor
namespace Go.Proofs.YtbkjjknlphlhlaaDoor
namespace Ev
open Go.Conc Go.ConcN
open Go.ConcR (KK WgAt stA smA rd wr mk)
set_option maxRecDepth 100000
section
variable (Wg : Nat) (nb db tb ob : Addr) (cn : Nat)
/-- Behind its receive, the channel being closed. -/
noncomputable def C0 : Goroutine := (B3 ⟨Wg, 0, none⟩ nb db tb ob cn).finishComm Tryd.prog #[rcase cn (.int .i64 0)] (.recv true) 0 (.int .i64 0) false
noncomputable def C2 : Goroutine := fin (adv Tryd.prog false 21 (C0 Wg nb db tb ob cn)) (.pointer (some ⟨Wg, 0, none⟩))
noncomputable def D0 : Goroutine := next Tryd.prog false (C2 Wg nb db tb ob cn)
noncomputable def D1 : Goroutine := next Tryd.prog false (adv Tryd.prog false 3 (D0 Wg nb db tb ob cn))
noncomputable def D2 : Goroutine := adv Tryd.prog false 34 (D1 Wg nb db tb ob cn)
theorem c_rel : ToMark false Wg (.releaseMerge (stA Wg)) (C0 Wg nb db tb ob cn) (D0 Wg nb db tb ob cn) := by
  refine ⟨22, C2 Wg nb db tb ob cn, Idle.trans (n := 21) (m := 1) (still_of (n := 21) (fun w => by kernel_rfl) (by kernel_rfl) (by kernel_rfl)).idle (Idle.one (es := #[]) (by kernel_rfl) (fun w hw => ?_) (by simp)), by kernel_rfl, fun w => by kernel_rfl⟩
  obtain ⟨v, hv⟩ := live0 hw
  exact conv_step (src := 104) (dst := 90) (t := 83) (by kernel_rfl) (by kernel_rfl) (by kernel_rfl) (by kernel_rfl) hv
theorem c_dis : ToMark false Wg .disable (D0 Wg nb db tb ob cn) (D1 Wg nb db tb ob cn) :=
  ⟨3, _, (still_of (fun w => by kernel_rfl) (by kernel_rfl) (by kernel_rfl)).idle, by kernel_rfl, fun w => by kernel_rfl⟩
theorem c_to : Idle Tryd.prog false (Live Wg) (Said Wg) 34 (D1 Wg nb db tb ob cn) (D2 Wg nb db tb ob cn) := (still_of (fun w => by kernel_rfl) (by kernel_rfl) (by kernel_rfl)).idle
theorem c_sits : ∃ d, sits (D2 Wg nb db tb ob cn) = some (70, #[.pointer (some ⟨Wg, 0, none⟩), .int .u64 d]) ∧ d = 18446744069414584320 := ⟨18446744069414584320, by kernel_rfl, rfl⟩
variable (at_ : Int)
/-- Behind its receive, with a number: to the region that draws its order. -/
noncomputable def T0 : Goroutine := (B3 ⟨Wg, 0, none⟩ nb db tb ob cn).finishComm Tryd.prog #[rcase cn (.int .i64 0)] (.recv true) 0 (.int .i64 at_) true
noncomputable def T1 : Goroutine := adv Tryd.prog false 12 (T0 Wg nb db tb ob cn at_)
theorem t_to : Still Tryd.prog false 12 (T0 Wg nb db tb ob cn at_) (T1 Wg nb db tb ob cn at_) := still_of (fun w => by kernel_rfl) (by kernel_rfl) (by kernel_rfl)
end
end Ev
end Go.Proofs.YtbkjjknlphlhlaaDoor
