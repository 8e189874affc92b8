/- What a task may run: each function of it is alike to itself. -/
import Derived.Test.YtbkjjknlphlhlaaDoorZ08
import Derived.Test.YtbkjjknlphlhlaaDoorZ21
namespace Go.Proofs.YtbkjjknlphlhlaaDoor
namespace Mc
open Go.Conc Sim Sin
set_option maxRecDepth 100000
/-- What a task may run. -/
def S12 : FuncId → Bool := fun f => [12, 13, 21, 24, 25, 26, 27, 28, 37, 38, 39, 64, 65, 66, 74].contains f
theorem s12_12 : Sin.fnB Tryd.prog S12 false 12 = true := by kernel_rfl
theorem s12_13 : Sin.fnB Tryd.prog S12 false 13 = true := by kernel_rfl
theorem s12_21 : Sin.fnB Tryd.prog S12 false 21 = true := by kernel_rfl
theorem s12_24 : Sin.fnB Tryd.prog S12 false 24 = true := by kernel_rfl
theorem s12_25 : Sin.fnB Tryd.prog S12 false 25 = true := by kernel_rfl
theorem s12_26 : Sin.fnB Tryd.prog S12 false 26 = true := by kernel_rfl
theorem s12_27 : Sin.fnB Tryd.prog S12 false 27 = true := by kernel_rfl
theorem s12_28 : Sin.fnB Tryd.prog S12 false 28 = true := by kernel_rfl
theorem s12_37 : Sin.fnB Tryd.prog S12 false 37 = true := by kernel_rfl
theorem s12_38 : Sin.fnB Tryd.prog S12 false 38 = true := by kernel_rfl
theorem s12_39 : Sin.fnB Tryd.prog S12 false 39 = true := by kernel_rfl
theorem s12_64 : Sin.fnB Tryd.prog S12 false 64 = true := by kernel_rfl
theorem s12_65 : Sin.fnB Tryd.prog S12 false 65 = true := by kernel_rfl
theorem s12_66 : Sin.fnB Tryd.prog S12 false 66 = true := by kernel_rfl
theorem s12_74 : Sin.fnB Tryd.prog S12 false 74 = true := by kernel_rfl
theorem s12_ok : ∀ f, S12 f = true → Sin.fnB Tryd.prog S12 false f = true := by
  intro f hf
  have h : f ∈ [12, 13, 21, 24, 25, 26, 27, 28, 37, 38, 39, 64, 65, 66, 74] := by simpa [S12] using hf
  simp only [List.mem_cons, List.not_mem_nil, or_false] at h
  rcases h with rfl | rfl | rfl | rfl | rfl | rfl | rfl | rfl | rfl | rfl | rfl | rfl | rfl | rfl | rfl
  · exact s12_12
  · exact s12_13
  · exact s12_21
  · exact s12_24
  · exact s12_25
  · exact s12_26
  · exact s12_27
  · exact s12_28
  · exact s12_37
  · exact s12_38
  · exact s12_39
  · exact s12_64
  · exact s12_65
  · exact s12_66
  · exact s12_74
end Mc
end Go.Proofs.YtbkjjknlphlhlaaDoor
