/- The contracts of the document's Over and FromWords. -/
import Derived.Test.YtmfpnlnhebjelaaTk
import Derived.Test.YtmfpnlnhebjelaaTf
namespace Go.Proofs.Ytmfpnlnhebjelaa
open Go.RowKit
open Go.Deep
/-- A quotient by a small number, digit by digit from the highest on. -/
theorem over_step (m n i : Nat) (hn : 0 < n) : (m / 256 ^ (i + 1) % n * 256 + dg 256 m i) / n = dg 256 (m / n) i ∧ (m / 256 ^ (i + 1) % n * 256 + dg 256 m i) % n = m / 256 ^ i % n := by
  have e := div_byte_step 256 m i
  have hd := dg_lt (B := 256) (by decide) m i
  have h1 := Nat.div_add_mod (m / 256 ^ (i + 1)) n
  have h2 := Nat.mod_lt (m / 256 ^ (i + 1)) hn
  have e3 : dg 256 (m / n) i = m / 256 ^ i / n % 256 := by
    unfold dg
    rw [Nat.div_div_eq_div_mul, Nat.div_div_eq_div_mul, Nat.mul_comm]
  rw [e3, e]
  generalize dg 256 m i = d at *
  generalize m / 256 ^ (i + 1) = T at *
  generalize T % n = r at *
  generalize T / n = q at *
  have e4 : 256 * T + d = n * (256 * q) + (r * 256 + d) := by
    rw [← h1, Nat.mul_add, Nat.mul_left_comm]
    omega
  rw [e4, Nat.mul_add_div hn]
  have h5 : (r * 256 + d) / n < 256 := by
    apply Nat.div_lt_of_lt_mul
    have := Nat.mul_le_mul_right 256 (show r + 1 ≤ n from h2)
    omega
  refine ⟨?_, (Nat.mul_add_mod _ _ _).symm⟩
  generalize (r * 256 + d) / n = c at *
  omega
/-- The digits from i on of one number, those below of another. -/
def hixd (x y i j : Nat) : Nat := if i ≤ j then dg 256 x j else dg 256 y j
theorem hixd_step (x y i j : Nat) : (if j = i then dg 256 x i else hixd x y (i + 1) j) = hixd x y i j := by
  unfold hixd
  by_cases e : j = i
  · rw [if_pos e, if_pos (by omega), e]
  · rw [if_neg e]
    by_cases e2 : i + 1 ≤ j
    · rw [if_pos e2, if_pos (by omega)]
    · rw [if_neg e2, if_neg (by omega)]
section
set_option maxRecDepth 10000
set_option maxHeartbeats 2000000
/-- A byte of a number, out of its word. -/
theorem dg8 (m i : Nat) : wd m (i / 8) / 2 ^ (8 * (i % 8)) % 256 = dg 256 m i := by
  unfold wd dg
  have e : 256 ^ i = 18446744073709551616 ^ (i / 8) * 2 ^ (8 * (i % 8)) := by
    rw [show (18446744073709551616 : Nat) = 2 ^ 64 from rfl, show (256 : Nat) = 2 ^ 8 from rfl, ← Nat.pow_mul, ← Nat.pow_mul, ← Nat.pow_add]
    congr 1
    omega
  rw [e, ← Nat.div_div_eq_div_mul]
  generalize m / 18446744073709551616 ^ (i / 8) = X
  have h8 : (18446744073709551616 : Nat) = 2 ^ (8 * (i % 8)) * (256 * 2 ^ (56 - 8 * (i % 8))) := by
    rw [show (256 : Nat) = 2 ^ 8 from rfl, ← Nat.pow_add, ← Nat.pow_add, show 8 * (i % 8) + (8 + (56 - 8 * (i % 8))) = 64 by omega]
  rw [h8, Nat.mod_mul_right_div_self, Nat.mod_mul_right_mod]
end
end Go.Proofs.Ytmfpnlnhebjelaa
