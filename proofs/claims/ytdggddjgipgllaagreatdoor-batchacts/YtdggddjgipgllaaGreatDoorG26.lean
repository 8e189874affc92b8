/- Acts on a book as they come in, and what a book is behind them; the errors by their numbers. -/
import Derived.Test.YtdggddjgipgllaaGreatDoorG11
import Derived.Test.YtdggddjgipgllaaGreatDoorG22
namespace Go.Proofs.YtdggddjgipgllaaGreatDoor
open Go.RowKit
set_option maxRecDepth 100000

end Go.Proofs.YtdggddjgipgllaaGreatDoor
