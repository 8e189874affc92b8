/- How a slice of lots that came in is opened, and what the listed errors give Check. -/
import Derived.Test.YtdggddjgipgllaaGreatDoorG00
import Derived.Test.YtdggddjgipgllaaGreatDoorG06
import Derived.Deep.Slices
import Derived.Carry
namespace Go.Proofs.YtdggddjgipgllaaGreatDoor
open Go.ChangeShapes Go.WideShapes Go.ChangeAt Go.RowKit

end Go.Proofs.YtdggddjgipgllaaGreatDoor
