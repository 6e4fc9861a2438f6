/- The contracts of wide.Bit, Bits, Not, and the document's Bit, Bits, Not, Compare. -/
import Derived.Test.YtjbiiiblnkpddaaWk
import Derived.Test.YtjbiiiblnkpddaaWq
namespace Go.Proofs.Ytjbiiiblnkpddaa
open Go.RowKit
open Go.Deep
theorem bit_word (n i : Nat) : (bits .and .u64 (((wd n (i / 64) : Nat) : Int) / 2 ^ (i % 64)) 1 == 1) = n.testBit i := by
  have e : ((wd n (i / 64) : Nat) : Int) / 2 ^ (i % 64) = ((wd n (i / 64) / 2 ^ (i % 64) : Nat) : Int) := by simp
  have hlt : wd n (i / 64) / 2 ^ (i % 64) < 18446744073709551616 := Nat.lt_of_le_of_lt (Nat.div_le_self _ _) (wd_lt _ _)
  have h := u64_and_nat (wd n (i / 64) / 2 ^ (i % 64)) 1 hlt (by decide)
  rw [Nat.and_one_is_mod] at h
  rw [e, show (1 : Int) = ((1 : Nat) : Int) from rfl, h, ← wd_bit_at n i, Nat.testBit_eq_decide_div_mod_eq]
  rw [Bool.eq_iff_iff]
  simp
  omega
section
set_option maxRecDepth 10000
set_option maxHeartbeats 2000000
end
end Go.Proofs.Ytjbiiiblnkpddaa
