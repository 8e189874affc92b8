/- How steps that came in are opened. -/
import Derived.Test.YtjolccidheflpaaGreatDoorV01
import Derived.Test.YtjolccidheflpaaGreatDoorV38
namespace Go.Proofs.YtjolccidheflpaaGreatDoor
set_option maxHeartbeats 8000000
open Go.ChangeShapes Go.WideShapes Go.ChangeAt Go.RowKit
end Go.Proofs.YtjolccidheflpaaGreatDoor
