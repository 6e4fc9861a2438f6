/- The mathematics of the library's long division of two words by one. -/
import Derived.Test.YtmfpnlnhebjelaaWm
namespace Go.Proofs.Ytmfpnlnhebjelaa
/-- What is known in a loop that brings a guessed digit down: v = v1 * 2^32 + v0 divides u * 2^32 + x. -/
structure Gs (v1 v0 u x q r : Nat) : Prop where
  sum : q * v1 + r = u
  ge : (u * 4294967296 + x) / (v1 * 4294967296 + v0) ≤ q
  le : q ≤ 4294967297
  r : r < 4294967296
section
variable {v1 v0 u x q r : Nat}
theorem Gs.prod (h : Gs v1 v0 u x q r) : q * (v1 * 4294967296 + v0) + r * 4294967296 = u * 4294967296 + q * v0 := by
  rw [← h.sum, Nat.mul_add, Nat.add_mul, Nat.mul_assoc]
  omega
theorem Gs.start (h1 : 2147483648 ≤ v1) (h0 : v0 < 4294967296) (hv1 : v1 < 4294967296) (hu : u < v1 * 4294967296 + v0) (hx : x < 4294967296) : Gs v1 v0 u x (u / v1) (u % v1) := by
  have hp : 0 < v1 := by omega
  refine ⟨by rw [Nat.mul_comm]; exact Nat.div_add_mod u v1, ?_, ?_, ?_⟩
  · apply Nat.le_of_lt_succ
    rw [Nat.div_lt_iff_lt_mul (by omega)]
    have e := Nat.div_add_mod u v1
    have hm := Nat.mod_lt u hp
    have e2 : (u / v1 + 1) * (v1 * 4294967296 + v0) = (v1 * (u / v1) + v1) * 4294967296 + (u / v1 + 1) * v0 := by
      rw [Nat.mul_add, ← Nat.mul_assoc, Nat.add_mul (u / v1) 1 v1, Nat.one_mul, Nat.mul_comm (u / v1) v1]
    rw [Nat.succ_eq_add_one, e2]
    omega
  · have : u / v1 < 4294967298 := by
      rw [Nat.div_lt_iff_lt_mul hp]
      omega
    omega
  · have := Nat.mod_lt u hp
    omega
/-- The test passes: the guess is the digit. -/
theorem Gs.done (h : Gs v1 v0 u x q r) (h1 : 0 < v1 * 4294967296 + v0) (ht : q * v0 ≤ 4294967296 * r + x) : q = (u * 4294967296 + x) / (v1 * 4294967296 + v0) := by
  have hp := h.prod
  refine Nat.le_antisymm ?_ h.ge
  rw [Nat.le_div_iff_mul_le h1]
  omega
/-- The test fails: the guess is too great. -/
theorem Gs.down (h : Gs v1 v0 u x q r) (_ : 2147483648 ≤ v1) (hu : u < v1 * 4294967296 + v0) (hx : x < 4294967296) (ht : 4294967296 ≤ q ∨ 4294967296 * r + x < q * v0) : (u * 4294967296 + x) / (v1 * 4294967296 + v0) ≤ q - 1 ∧ 1 ≤ q ∧ (q - 1) * v1 + (r + v1) = u := by
  have hp := h.prod
  have hq : 1 ≤ q := by
    rcases ht with ht | ht
    · omega
    · rcases Nat.eq_zero_or_pos q with h0 | h0
      · subst h0
        omega
      · omega
  refine ⟨?_, hq, ?_⟩
  · have : (u * 4294967296 + x) / (v1 * 4294967296 + v0) < q := by
      rcases ht with ht | ht
      · refine Nat.lt_of_lt_of_le ?_ ht
        rw [Nat.div_lt_iff_lt_mul (by omega)]
        omega
      · rw [Nat.div_lt_iff_lt_mul (by omega)]
        omega
    omega
  · obtain ⟨k, rfl⟩ : ∃ k, q = k + 1 := ⟨q - 1, by omega⟩
    have := h.sum
    rw [Nat.add_mul] at this
    rw [Nat.add_sub_cancel]
    omega
theorem Gs.next (h : Gs v1 v0 u x q r) (h1 : 2147483648 ≤ v1) (hu : u < v1 * 4294967296 + v0) (hx : x < 4294967296) (ht : 4294967296 ≤ q ∨ 4294967296 * r + x < q * v0) (hr : r + v1 < 4294967296) : Gs v1 v0 u x (q - 1) (r + v1) := by
  obtain ⟨a, b, c⟩ := h.down h1 hu hx ht
  have := h.le
  exact ⟨c, a, by omega, hr⟩
theorem Gs.out (h : Gs v1 v0 u x q r) (h1 : 2147483648 ≤ v1) (h0 : v0 < 4294967296) (hu : u < v1 * 4294967296 + v0) (hx : x < 4294967296) (ht : 4294967296 ≤ q ∨ 4294967296 * r + x < q * v0) (hr : 4294967296 ≤ r + v1) : q - 1 = (u * 4294967296 + x) / (v1 * 4294967296 + v0) := by
  obtain ⟨a, b, c⟩ := h.down h1 hu hx ht
  have hl := h.le
  refine Nat.le_antisymm ?_ a
  rw [Nat.le_div_iff_mul_le (by omega)]
  have e : (q - 1) * (v1 * 4294967296 + v0) = ((q - 1) * v1) * 4294967296 + (q - 1) * v0 := by rw [Nat.mul_add, Nat.mul_assoc]
  have f : (q - 1) * v0 ≤ 4294967296 * 4294967295 := Nat.mul_le_mul (by omega) (by omega)
  rw [e]
  generalize (q - 1) * v1 = A at *
  generalize (q - 1) * v0 = B at *
  omega
end
/-- The remainder of a step, in words. -/
theorem rest_word (u x q v : Nat) (hv : v < 18446744073709551616) (hp : 0 < v) (hq : q = (u * 4294967296 + x) / v) : ((u : Int) * 4294967296 + x - q * v) % 18446744073709551616 = (((u * 4294967296 + x) % v : Nat) : Int) := by
  subst hq
  have e := Nat.div_add_mod (u * 4294967296 + x) v
  have hm := Nat.mod_lt (u * 4294967296 + x) hp
  rw [Nat.mul_comm v] at e
  have e2 : (((u * 4294967296 + x) / v : Nat) : Int) * v = (((u * 4294967296 + x) / v * v : Nat) : Int) := by rw [Int.natCast_mul]
  rw [e2]
  generalize (u * 4294967296 + x) / v * v = A at *
  generalize (u * 4294967296 + x) % v = R at *
  omega
/-- Two steps are a division. -/
theorem two_steps (u x1 x0 v : Nat) (hp : 0 < v) : (u * 4294967296 + x1) / v * 4294967296 + ((u * 4294967296 + x1) % v * 4294967296 + x0) / v = (u * 18446744073709551616 + (x1 * 4294967296 + x0)) / v ∧ ((u * 4294967296 + x1) % v * 4294967296 + x0) % v = (u * 18446744073709551616 + (x1 * 4294967296 + x0)) % v := by
  have e := Nat.div_add_mod (u * 4294967296 + x1) v
  have e2 : u * 18446744073709551616 + (x1 * 4294967296 + x0) = v * ((u * 4294967296 + x1) / v * 4294967296) + ((u * 4294967296 + x1) % v * 4294967296 + x0) := by
    rw [← Nat.mul_assoc]
    omega
  rw [e2]
  exact ⟨(Nat.mul_add_div hp _ _).symm, (Nat.mul_add_mod _ _ _).symm⟩
end Go.Proofs.Ytmfpnlnhebjelaa
