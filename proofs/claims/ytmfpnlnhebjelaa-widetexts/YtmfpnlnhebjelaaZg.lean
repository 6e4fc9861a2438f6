/- The contract of the document's Root. -/
import Derived.Test.YtmfpnlnhebjelaaZc
import Derived.Test.YtmfpnlnhebjelaaZe
namespace Go.Proofs.Ytmfpnlnhebjelaa
open Go.RowKit
open Go.Deep
/-- A bit more in a number: the word, the place in it, the bit, the word behind. -/
structure Pf (x n q r p s : Nat) : Prop where
  d1 : (n : Int) / 64 = (q : Int)
  d2 : (n : Int) % 64 = (r : Int)
  n0 : (0 : Int) ≤ n
  q0 : (0 : Int) ≤ q
  q4 : (q : Int) < 4
  q4n : q < 4
  r0 : (0 : Int) ≤ r
  r6 : (r : Int) ≤ 64
  shl : IntKind.u64.wrap ((2 : Int) ^ r) = (p : Int)
  sum : IntKind.u64.wrap (((wd x q : Nat) : Int) + (p : Int)) = (s : Int)
  all : ∀ j, (if j = q then s else wd x j) = wd (x + 2 ^ n) j
theorem put_facts (x n : Nat) (hn : n < 256) (hb : x.testBit n = false) : ∃ q r p s, Pf x n q r p s := by
  obtain ⟨p1, p2, p3⟩ := wd_put x n hb
  refine ⟨n / 64, n % 64, 2 ^ (n % 64), wd x (n / 64) + 2 ^ (n % 64), ⟨by omega, by omega, by omega, by omega, by omega, by omega, by omega, by omega, one_shl _ (by omega), ?_, fun j => (p3 j).symm⟩⟩
  rw [← Int.natCast_add]
  generalize wd x (n / 64) + 2 ^ (n % 64) = s at *
  exact wrapu _ (by omega) (by omega)
section
set_option maxRecDepth 10000
set_option maxHeartbeats 2000000
end
end Go.Proofs.Ytmfpnlnhebjelaa
