/- What Check answers is what LotsFault says: faulted. -/
import Derived.Test.YtdggddjgipgllaaGreatDoorG06
import Derived.Test.YtdggddjgipgllaaGreatDoorG17
namespace Go.Proofs.YtdggddjgipgllaaGreatDoor
open Go.RowKit
set_option maxRecDepth 100000

end Go.Proofs.YtdggddjgipgllaaGreatDoor
