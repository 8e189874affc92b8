/- How steps that came in are opened. -/
import Derived.Test.YtjolccidheflpaaGreatDoorW01
import Derived.Test.YtjolccidheflpaaGreatDoorW38
namespace Go.Proofs.YtjolccidheflpaaGreatDoor
set_option maxHeartbeats 8000000
set_option maxRecDepth 100000
open Go.ChangeShapes Go.WideShapes Go.ChangeAt Go.RowKit
end Go.Proofs.YtjolccidheflpaaGreatDoor
