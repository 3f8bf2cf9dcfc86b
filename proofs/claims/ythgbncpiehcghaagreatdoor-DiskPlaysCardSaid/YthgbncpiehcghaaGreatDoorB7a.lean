/- WALKS OF LAYER 7 (blocks), FIRST PART: how many blocks, how many bytes fill up; what is there; a copy; filled up. -/
import Derived.Test.YthgbncpiehcghaaGreatDoorCm
import Derived.Test.YthgbncpiehcghaaGreatDoorOb
import Derived.Test.YthgbncpiehcghaaGreatDoorM7
namespace Go.Proofs.YthgbncpiehcghaaGreatDoor
open Go.RowKit
set_option maxHeartbeats 400000
set_option maxRecDepth 100000
set_option linter.unusedVariables false
end Go.Proofs.YthgbncpiehcghaaGreatDoor
