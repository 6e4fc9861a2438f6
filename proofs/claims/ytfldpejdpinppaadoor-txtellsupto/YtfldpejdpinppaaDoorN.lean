/- The sum of three letters, and awake. -/
import Derived.Test.YtfldpejdpinppaaDoorM
namespace Go.Proofs.YtfldpejdpinppaaDoor
open Go.RowKit
open Go.Deep
theorem abc_ends : sb (fin [97, 98, 99]) 0 = 186 ∧ sb (fin [97, 98, 99]) 31 = 173 := by
  decide +kernel
theorem idx31 (s : St) (i : Nat) (h : i < 8) (w : World) : (Instr.index 116 (.agg (uc s.list)) (.int .i64 (i : Int))).run Tryd.prog w = .ok (.int .u32 ((s.at i).toNat : Int)) w := by
  obtain ⟨a, b, c, d, e, f, g, k⟩ := s
  rcases i with _ | _ | _ | _ | _ | _ | _ | _ | i
  all_goals first | omega | kernel_rfl
section
set_option maxRecDepth 10000
set_option maxHeartbeats 1000000
end
end Go.Proofs.YtfldpejdpinppaaDoor
