/- The contracts of the small functions of num: CountLong and behindMark. -/
import Derived.Test.YtnmffnefkokkeaaRows
import Derived.WalkKit
import Derived.WalkSpells
import Derived.WalkLawsBesides
namespace Go.Proofs.Ytnmffnefkokkeaa
open Go.RowKit

def clong (n : Int) : Int := if n < 253 then 1 else if n ≤ 65535 then 3 else if n ≤ 4294967295 then 5 else 9

set_option maxHeartbeats 400000 in
theorem countLong_any (n : Int) (w : World) :
    Calls Try.prog 13 #[.int .u64 n] w fun e w' => e = .returned (.int .i64 (clong n)) ∧ w' = w := by
  unfold clong
  go_enter Try.func13, Try.ntmps13
  go_wp2
  all_goals go_ret
  all_goals (refine ⟨?_, rfl⟩; simp [*])

set_option maxHeartbeats 400000 in
theorem behind_any (n : Int) (w : World) :
    Calls Try.prog 45 #[.int .u8 n] w fun e w' => e = .returned (.int .i64 (if n = 253 then 2 else if n = 254 then 4 else 8)) ∧ w' = w := by
  go_enter Try.func45, Try.ntmps45
  go_wp2
  all_goals go_ret
  all_goals (refine ⟨?_, rfl⟩; simp_all)
end Go.Proofs.Ytnmffnefkokkeaa
