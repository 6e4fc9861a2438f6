/- The document's Bytes: its contract. The document's Told: its contract. -/
import Derived.Test.YtcoojkpimbddlaaGreatDoorX17
import Derived.Test.YtcoojkpimbddlaaGreatDoorX18
namespace Go.Proofs.YtcoojkpimbddlaaGreatDoor
open Go.RowKit
open Go.Deep
set_option linter.unusedVariables false
section
set_option maxRecDepth 10000
set_option maxHeartbeats 4000000
end
section
set_option maxRecDepth 10000
set_option maxHeartbeats 4000000
end
end Go.Proofs.YtcoojkpimbddlaaGreatDoor
