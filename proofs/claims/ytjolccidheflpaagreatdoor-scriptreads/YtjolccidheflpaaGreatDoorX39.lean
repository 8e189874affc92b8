/- The library: strings.SplitN, laid at this program. -/
import Derived.Test.YtjolccidheflpaaGreatDoorX00
import Derived.Shelf.Strings.Split
namespace Go.Proofs.YtjolccidheflpaaGreatDoor
open Go.Proofs.Tryz
set_option maxHeartbeats 8000000
set_option maxRecDepth 100000
open Go.Shelf
def anF:Go.Shelf.Ren:=⟨fun | 147=>211 | 221=>239 | 268=>271 | 138=>272 | 143=>199 | 195=>294 | 197=>198 | 218=>295 | 219=>193 | 260=>234 | 217=>200 | 225=>225 | 224=>226 | 267=>227 | 266=>235 | 314=>267 | n=>n,fun | 9=>9 | 3=>3 | 31=>70 | 4=>4 | 0=>0 | 105=>305 | 21=>21 | 5=>5 | 46=>245 | 119=>390 | 139=>393 | 138=>392 | 146=>383 | 51=>41 | n=>n,fun | 1=>13 | 3=>16 | 4=>17 | n=>n⟩
theorem anG:Go.Proofs.Lays.n147 prog anF:=by constructor <;> first | kernel_rfl | (intro _;kernel_rfl) | (constructor <;> first | kernel_rfl | (intro _;kernel_rfl) | (constructor <;> first | kernel_rfl | (intro _;kernel_rfl)))
open Go.RowKit Go.Lib in
theorem strings_SplitN(s sep:ByteArray)(n:Nat)(m:Int)(w:World)(hs:s.size<4294967281)(hm:w.cell? (O 13 0)=some (Z m))(h1:1<=sep.size)(hn:1<=n)(anH:n<=9223372036854775807):
  Calls prog 211 #[.string s,.string sep,Z n] w fun e w' =>
   e=.returned (.slice (some (O w.heap.size 0)) (Lib.splitB sep 0 (min n (s.size+1)-1) s).length (min n (s.size+1)))/\w'=w.alloc (.cells (Lib.cellsOf (Lib.splitB sep 0 (min n (s.size+1)-1) s) (min n (s.size+1))) 9):=Any.strings_SplitN anG (by kernel_rfl) s sep n m w hs hm h1 hn anH
end Go.Proofs.YtjolccidheflpaaGreatDoor
