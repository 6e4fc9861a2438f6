/- The walk of StoreRecords. -/
import Derived.Test.YtppooipamibhoaaGreatDoorOk
import Derived.Test.YtppooipamibhoaaGreatDoorOl
import Derived.Test.YtppooipamibhoaaGreatDoorOm
namespace Go.Proofs.YtppooipamibhoaaGreatDoor
open Go.RowKit
open Go.Deep
open Go.Lib
set_option linter.unusedVariables false
set_option linter.unusedSimpArgs false
section
set_option maxRecDepth 10000
set_option maxHeartbeats 8000000
theorem storeRecords_walk (s nm : ByteArray) (F A N : Int) (hs : s.size ≤ 140737488351232) (hm : nm.size ≤ 140737488351232) (w : World) (hK : Kg w) : Calls Tryz.prog 8 #[.string s, .string nm, .agg #[.int .i64 F, .int .i64 A, .int .i64 N]] w fun e w' => e = .returned (.bool true) ∧ Below w.heap.size w w' := by
  cases hn : nameO (lsD nm) with
  | true => exact storeRecords_ok s nm F A N hs hm hn w hK
  | false =>
    by_cases h0 : nm.size = 0
    · exact storeRecords_empty s nm F A N hs hm hn h0 w hK
    · by_cases h1 : 20 < nm.size
      · exact storeRecords_long s nm F A N hs hm hn h1 w hK
      · exact storeRecords_odd s nm F A N hs hm hn (by omega) (by omega) w hK
end
end Go.Proofs.YtppooipamibhoaaGreatDoor
