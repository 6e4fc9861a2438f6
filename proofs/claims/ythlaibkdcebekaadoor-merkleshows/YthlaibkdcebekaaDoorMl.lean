/- The contract of the document's Branch. -/
import Derived.Test.YthlaibkdcebekaaDoorMk
namespace Go.Proofs.YthlaibkdcebekaaDoor
open Go.RowKit
open Go.Deep
section
set_option maxRecDepth 10000
set_option maxHeartbeats 4000000
end
end Go.Proofs.YthlaibkdcebekaaDoor
