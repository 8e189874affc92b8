/- Small facts for walks. -/
import Derived.Test.YtbcinejhipmomaaDoorCheckWalks
namespace Go.Proofs.YtbcinejhipmomaaDoor
open Go.RowKit

theorem hide {p : Prop} (h : p) : Hid p := h
theorem take_snoc (s : ByteArray) (k : Nat) (h : k < s.size) : s.data.toList.take (k + 1) = s.data.toList.take k ++ [s[k]] := by
  rw [List.take_succ_eq_append_getElem (by simpa using h)]; rfl

theorem val_int {k : IntKind} {a b : Int} (h : a = b) : Value.int k a = .int k b := by rw [h]

end Go.Proofs.YtbcinejhipmomaaDoor
