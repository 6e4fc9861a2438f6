/- The closed facts of StoreRecords' card, one by one. -/
import Derived.Test.YtppooipamibhoaaGreatDoorRows
import Derived.Test.YtppooipamibhoaaGreatDoorCards
import Derived.Test.YtppooipamibhoaaGreatDoorTie
import Derived.Test.YtppooipamibhoaaGreatDoorV
namespace Go.Proofs.YtppooipamibhoaaGreatDoor.storeRecords
open Go
set_option maxRecDepth 100000
theorem tw : Rows.storeRecordsRow.wfByText (OpenSpec.ofChange Rows.storeRecordsSpec) = true := by kernel_rfl
theorem tm : Tryz.pinned.checked.prog.mainIs = some (Rows.storeRecordsCard.stood.harness.1, Rows.storeRecordsCard.stood.harness.2.toList) := by kernel_rfl
theorem tl : true = Tryz.pinned.checked.prog.looks [] := by kernel_rfl
theorem tf : Tryz.prog.funcNamed "bedrock/bedrocklaw18.StoreRecords" = some 8 := by kernel_rfl
theorem ts : ([9, 9, 105].all fun u => !Tryz.prog.wantsStandIn u) = true := by kernel_rfl
theorem tg : false = Rows.storeRecordsRow.goesBy Tryz.pinned.checked.prog := by kernel_rfl
end Go.Proofs.YtppooipamibhoaaGreatDoor.storeRecords
