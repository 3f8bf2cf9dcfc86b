/- WALKS OF LAYER 7 (blocks), FIRST PART: how many blocks, how many bytes fill up; what is there; a copy; filled up. -/
import Derived.Test.YtbianfjennnofaaGreatDoorCm
import Derived.Test.YtbianfjennnofaaGreatDoorOb
import Derived.Test.YtbianfjennnofaaGreatDoorM7
namespace Go.Proofs.YtbianfjennnofaaGreatDoor
open Go.RowKit
set_option maxHeartbeats 400000
set_option maxRecDepth 100000
set_option linter.unusedVariables false
end Go.Proofs.YtbianfjennnofaaGreatDoor
