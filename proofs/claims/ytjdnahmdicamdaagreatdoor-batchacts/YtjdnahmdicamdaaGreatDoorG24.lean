/- What Check answers is what LotsFault says: faulted. -/
import Derived.Test.YtjdnahmdicamdaaGreatDoorG06
import Derived.Test.YtjdnahmdicamdaaGreatDoorG17
namespace Go.Proofs.YtjdnahmdicamdaaGreatDoor
open Go.RowKit
set_option maxRecDepth 100000

end Go.Proofs.YtjdnahmdicamdaaGreatDoor
