/- The walks of check, Take and of the document's TakeOf. -/
import Derived.Test.YtjolccidheflpaaGreatDoorV31
import Derived.Deep.RegionWith
import Derived.Laws.Rows
import Derived.OneCell
namespace Go.Proofs.YtjolccidheflpaaGreatDoor
set_option maxHeartbeats 8000000
open Go.RowKit
set_option maxRecDepth 100000
section
variable {T:Nat->Value}
theorem iT {w w1:World} {B:Nat} {o:Obj} (hb:Below w.heap.size w w1) (h:w.heap[B]?=some o):w1.heap[B]?=some o:=by rw[hb.block _ (lBq h)];exact h
end
section
variable {T:Nat->Value}
end
end Go.Proofs.YtjolccidheflpaaGreatDoor
