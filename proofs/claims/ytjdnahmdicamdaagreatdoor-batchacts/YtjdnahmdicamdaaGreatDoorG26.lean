/- Acts on a book as they come in, and what a book is behind them; the errors by their numbers. -/
import Derived.Test.YtjdnahmdicamdaaGreatDoorG11
import Derived.Test.YtjdnahmdicamdaaGreatDoorG22
namespace Go.Proofs.YtjdnahmdicamdaaGreatDoor
open Go.RowKit
set_option maxRecDepth 100000

end Go.Proofs.YtjdnahmdicamdaaGreatDoor
