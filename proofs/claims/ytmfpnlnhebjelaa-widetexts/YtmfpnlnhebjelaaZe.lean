/- The contract of wide.Root. -/
import Derived.Test.YtmfpnlnhebjelaaZd
import Derived.Test.YtmfpnlnhebjelaaWp
import Derived.Test.YtmfpnlnhebjelaaWl
namespace Go.Proofs.Ytmfpnlnhebjelaa
open Go.RowKit
open Go.Deep
theorem cmp_le (a b : Nat) : cmpZ a b ≤ 0 ↔ a ≤ b := by
  unfold cmpZ
  split
  · simp; omega
  · split
    · simp; omega
    · simp; omega
theorem Tri.alloc {w W : World} {t : TypeId} {m r : Nat} (j : Tri w W t m r) (o : Obj) : Tri w (W.alloc o) t m r := j.next ((Below.refl _ _).alloc (Nat.le_refl _) _)
section
set_option maxRecDepth 10000
set_option maxHeartbeats 2000000
end
end Go.Proofs.Ytmfpnlnhebjelaa
