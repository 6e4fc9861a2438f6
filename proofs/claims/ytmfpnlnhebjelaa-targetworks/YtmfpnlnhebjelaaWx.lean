/- The contracts of the document's Right and Left. -/
import Derived.Test.YtmfpnlnhebjelaaWt
namespace Go.Proofs.Ytmfpnlnhebjelaa
open Go.RowKit
open Go.Deep
theorem mod_bit (X d : Nat) : X % 2 ^ (d + 1) = X % 2 ^ d + if X.testBit d then 2 ^ d else 0 := by
  rw [mod_next, dg, Nat.testBit_eq_decide_div_mod_eq]
  have h := Nat.mod_lt (X / 2 ^ d) (show 0 < 2 by decide)
  by_cases e : X / 2 ^ d % 2 = 1
  · simp [e]
  · have e' : X / 2 ^ d % 2 = 0 := by omega
    simp [e']
theorem put_word (O d : Nat) (h : O < 2 ^ d) : IntKind.u64.wrap (((wd O (d / 64) : Nat) : Int) + ((2 ^ (d % 64) : Nat) : Int)) = ((wd O (d / 64) + 2 ^ (d % 64) : Nat) : Int) := by
  have := (wd_put O d (small_bit O d d h (Nat.le_refl _))).2.1
  rw [← Int.natCast_add]
  generalize wd O (d / 64) + 2 ^ (d % 64) = p at *
  exact wrapu _ (by omega) (by omega)
theorem one_shl (r : Nat) (h : r < 64) : IntKind.u64.wrap ((2 : Int) ^ r) = ((2 ^ r : Nat) : Int) := by
  have h1 : 2 ^ r < 2 ^ 64 := Nat.pow_lt_pow_right (by decide) h
  rw [show ((2 : Int) ^ r) = ((2 ^ r : Nat) : Int) by simp]
  generalize 2 ^ r = p at *
  exact wrapu _ (by omega) (by omega)
section
set_option maxRecDepth 10000
set_option maxHeartbeats 2000000
end
/-- A number without its bits from i on, times a power of 2. -/
def ls (m n i : Nat) : Nat := m % 2 ^ i * 2 ^ n
theorem ls_zero (m n : Nat) : ls m n 0 = 0 := by simp [ls, Nat.mod_one]
theorem ls_end (m n : Nat) (hm : m < M) : ls m n 256 = m * 2 ^ n := by rw [ls, ← M_pow, Nat.mod_eq_of_lt hm]
theorem ls_step (m n i : Nat) : ls m n (i + 1) = ls m n i + if m.testBit i then 2 ^ (i + n) else 0 := by
  unfold ls
  rw [mod_bit, Nat.add_mul]
  congr 1
  split
  · rw [Nat.pow_add]
  · simp
theorem ls_lt (m n i : Nat) : ls m n i < 2 ^ (i + n) := by
  rw [ls, Nat.pow_add]
  exact Nat.mul_lt_mul_of_pos_right (Nat.mod_lt _ (Nat.two_pow_pos i)) (Nat.two_pow_pos n)
theorem ls_low (m n i : Nat) (h : i + n ≤ 256) : decide (M ≤ ls m n i) = false := by
  have h1 := ls_lt m n i
  have h2 : 2 ^ (i + n) ≤ 2 ^ 256 := Nat.pow_le_pow_right (by decide) h
  rw [← M_pow] at h2
  simp
  omega
theorem ls_high (m n i : Nat) (h : 256 ≤ i + n) (hb : m.testBit i = true) : decide (M ≤ ls m n (i + 1)) = true ∧ ∀ j, j < 4 → wd (ls m n i) j = wd (ls m n (i + 1)) j := by
  rw [ls_step, if_pos hb]
  have e : 2 ^ (i + n) = M * 2 ^ (i + n - 256) := by rw [M_pow, ← Nat.pow_add, show 256 + (i + n - 256) = i + n by omega]
  have hp := Nat.two_pow_pos (i + n - 256)
  have h1 : M * 1 ≤ M * 2 ^ (i + n - 256) := Nat.mul_le_mul_left _ hp
  rw [e]
  refine ⟨by simp; omega, fun j hj => ?_⟩
  rw [← wd_mod (_ + _) j hj, Nat.add_mul_mod_self_left, wd_mod _ j hj]
section
set_option maxRecDepth 10000
set_option maxHeartbeats 2000000
end
end Go.Proofs.Ytmfpnlnhebjelaa
