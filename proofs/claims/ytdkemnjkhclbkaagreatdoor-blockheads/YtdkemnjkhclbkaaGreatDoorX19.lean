/- The mathematics of bits and shifts. The contracts of wide.Bit, Bits, Not, and the document's Bit, Bits, Not, Compare. The contracts of wide.Bits, the document's Bits, Not, Compare, and wide.Not. -/
import Derived.Test.YtdkemnjkhclbkaaGreatDoorX16
import Derived.Test.YtdkemnjkhclbkaaGreatDoorX18
namespace Go.Proofs.YtdkemnjkhclbkaaGreatDoor
theorem word_pow (j : Nat) : 18446744073709551616 ^ j = 2 ^ (64 * j) := by
  rw [Nat.pow_mul]
theorem wd_bit (n j t : Nat) : (wd n j).testBit t = (decide (t < 64) && n.testBit (64 * j + t)) := by
  unfold wd dg
  rw [word_pow, show (18446744073709551616 : Nat) = 2 ^ 64 from rfl, Nat.testBit_mod_two_pow, Nat.testBit_div_two_pow]
  congr 2
  omega
theorem wd_bit_at (n i : Nat) : (wd n (i / 64)).testBit (i % 64) = n.testBit i := by
  rw [wd_bit, show 64 * (i / 64) + i % 64 = i by omega, decide_eq_true (by omega), Bool.true_and]
theorem word_ext {x y : Nat} (h : ∀ t, x.testBit t = y.testBit t) : x = y := Nat.eq_of_testBit_eq h
theorem pow_bit (p t : Nat) : (2 ^ p).testBit t = decide (p = t) := by rw [Nat.testBit_two_pow]
/-- A bit put to a number that has it not. -/
theorem or_bit (a r : Nat) (h : a.testBit r = false) : a ||| 2 ^ r = a + 2 ^ r := by
  have hp := Nat.two_pow_pos r
  have h0 : a / 2 ^ r % 2 = 0 := by
    rw [Nat.testBit_eq_decide_div_mod_eq] at h
    simp at h
    omega
  have e : a = 2 ^ (r + 1) * (a / 2 ^ r / 2) + a % 2 ^ r := by
    have h1 := Nat.div_add_mod a (2 ^ r)
    have h2 := Nat.div_add_mod (a / 2 ^ r) 2
    rw [h0, Nat.add_zero] at h2
    rw [Nat.pow_succ, Nat.mul_assoc, h2]
    exact h1.symm
  have hl := Nat.mod_lt a hp
  generalize a % 2 ^ r = l at *
  generalize a / 2 ^ r / 2 = q at *
  have e1 : 2 ^ (r + 1) * q + l = 2 ^ (r + 1) * q ||| l := Nat.two_pow_add_eq_or_of_lt (by rw [Nat.pow_succ]; omega) q
  have e2 : 2 ^ (r + 1) * q + (2 ^ r * 1 + l) = 2 ^ (r + 1) * q ||| (2 ^ r * 1 + l) := Nat.two_pow_add_eq_or_of_lt (by rw [Nat.pow_succ]; omega) q
  have e3 : 2 ^ r * 1 + l = 2 ^ r * 1 ||| l := Nat.two_pow_add_eq_or_of_lt hl 1
  rw [e3, Nat.mul_one] at e2
  rw [e, e1, Nat.or_assoc, Nat.or_comm l, ← e2, ← e1]
  rw [Nat.mul_one] at e3
  omega
/-- The words of a number with a bit more. -/
theorem wd_or (x p i : Nat) : wd (x ||| 2 ^ p) i = if i = p / 64 then wd x i ||| 2 ^ (p % 64) else wd x i := by
  split
  · rename_i h
    apply word_ext
    intro t
    rw [wd_bit, Nat.testBit_or, Nat.testBit_or, wd_bit, pow_bit, pow_bit]
    by_cases ht : t < 64
    · by_cases e : p = 64 * i + t
      · simp [ht, e, show (64 * i + t) % 64 = t by omega]
      · have e' : ¬ p % 64 = t := by omega
        simp [ht, e, e']
    · have e' : ¬ p % 64 = t := by omega
      simp [ht, e']
  · rename_i h
    apply word_ext
    intro t
    rw [wd_bit, Nat.testBit_or, wd_bit, pow_bit]
    by_cases ht : t < 64
    · have e' : ¬ p = 64 * i + t := by omega
      simp [e']
    · simp [ht]
theorem wd_put (x p : Nat) (h : x.testBit p = false) : wd x (p / 64) ||| 2 ^ (p % 64) = wd x (p / 64) + 2 ^ (p % 64) ∧ wd x (p / 64) + 2 ^ (p % 64) < 18446744073709551616 ∧ ∀ i, wd (x + 2 ^ p) i = if i = p / 64 then wd x (p / 64) + 2 ^ (p % 64) else wd x i := by
  have e := or_bit x p h
  have e1 : wd x (p / 64) ||| 2 ^ (p % 64) = wd x (p / 64) + 2 ^ (p % 64) := or_bit _ _ (by rw [wd_bit_at]; exact h)
  refine ⟨e1, ?_, fun i => ?_⟩
  · rw [← e1]
    exact Nat.or_lt_two_pow (wd_lt x _) (Nat.pow_lt_pow_right (by decide) (Nat.mod_lt _ (by decide)))
  · rw [← e, wd_or]
    split
    · rename_i hi
      rw [hi, e1]
    · rfl
theorem small_bit (x p q : Nat) (h : x < 2 ^ p) (hq : p ≤ q) : x.testBit q = false := Nat.testBit_lt_two_pow (Nat.lt_of_lt_of_le h (Nat.pow_le_pow_right (by decide) hq))
/-- Words of a number times a power of 2. -/
theorem up_word (m n i : Nat) : wd (m * 2 ^ n) i = if i < n / 64 then 0 else wd m (i - n / 64) * 2 ^ (n % 64) % 18446744073709551616 ||| (if n / 64 < i then wd m (i - n / 64 - 1) / 2 ^ (64 - n % 64) else 0) := by
  apply word_ext
  intro t
  rw [wd_bit, Nat.testBit_mul_two_pow]
  split
  · rename_i h
    have : ¬ n ≤ 64 * i + t ∨ ¬ t < 64 := by omega
    rcases this with h | h <;> simp [h]
  · rename_i h
    rw [Nat.testBit_or, show (18446744073709551616 : Nat) = 2 ^ 64 from rfl, Nat.testBit_mod_two_pow, Nat.testBit_mul_two_pow, wd_bit]
    by_cases ht : t < 64
    · by_cases hp : t < n % 64
      · by_cases hi : n / 64 < i
        · rw [if_pos hi, Nat.testBit_div_two_pow, wd_bit]
          have h1 : ¬ n % 64 ≤ t := by omega
          have h2 : n ≤ 64 * i + t := by omega
          have h3 : 64 - n % 64 + t < 64 := by omega
          have h4 : 64 * (i - n / 64 - 1) + (64 - n % 64 + t) = 64 * i + t - n := by omega
          simp [ht, h1, h2, h3, h4, Nat.add_comm t]
        · rw [if_neg hi]
          have h1 : ¬ n % 64 ≤ t := by omega
          have h2 : ¬ n ≤ 64 * i + t := by omega
          simp [h1, h2]
      · have h1 : n % 64 ≤ t := by omega
        have h2 : n ≤ 64 * i + t := by omega
        have h3 : t - n % 64 < 64 := by omega
        have h4 : 64 * (i - n / 64) + (t - n % 64) = 64 * i + t - n := by omega
        have h5 : (if n / 64 < i then wd m (i - n / 64 - 1) / 2 ^ (64 - n % 64) else 0).testBit t = false := by
          split
          · rw [Nat.testBit_div_two_pow, wd_bit]
            have : ¬ t + (64 - n % 64) < 64 := by omega
            simp [this, Nat.add_comm]
          · simp
        rw [h5]
        simp [ht, h1, h2, h3, h4]
    · have h5 : (if n / 64 < i then wd m (i - n / 64 - 1) / 2 ^ (64 - n % 64) else 0).testBit t = false := by
        split
        · rw [Nat.testBit_div_two_pow, wd_bit]
          have : ¬ t + (64 - n % 64) < 64 := by omega
          simp [this, Nat.add_comm]
        · simp
      rw [h5]
      simp [ht]
/-- Words of a number over a power of 2. -/
theorem down_word (m n i : Nat) : wd (m / 2 ^ n) i = wd m (i + n / 64) / 2 ^ (n % 64) ||| wd m (i + n / 64 + 1) * 2 ^ (64 - n % 64) % 18446744073709551616 := by
  apply word_ext
  intro t
  rw [wd_bit, Nat.testBit_div_two_pow, Nat.testBit_or, Nat.testBit_div_two_pow, wd_bit, show (18446744073709551616 : Nat) = 2 ^ 64 from rfl, Nat.testBit_mod_two_pow, Nat.testBit_mul_two_pow, wd_bit]
  by_cases ht : t < 64
  · by_cases hp : n % 64 + t < 64
    · have h1 : ¬ 64 - n % 64 ≤ t := by omega
      have h2 : 64 * (i + n / 64) + (n % 64 + t) = n + (64 * i + t) := by omega
      simp [ht, hp, h1, h2, Nat.add_comm t]
      congr 1
      omega
    · have h1 : 64 - n % 64 ≤ t := by omega
      have h2 : 64 * (i + n / 64 + 1) + (t - (64 - n % 64)) = n + (64 * i + t) := by omega
      have h3 : t - (64 - n % 64) < 64 := by omega
      simp [ht, hp, h1, h2, h3, Nat.add_comm t]
      congr 1
      omega
  · have h1 : ¬ n % 64 + t < 64 := by omega
    simp [ht, h1, Nat.add_comm t]
end Go.Proofs.YtdkemnjkhclbkaaGreatDoor
namespace Go.Proofs.YtdkemnjkhclbkaaGreatDoor
open Go.RowKit
open Go.Deep
theorem bit_word (n i : Nat) : (bits .and .u64 (((wd n (i / 64) : Nat) : Int) / 2 ^ (i % 64)) 1 == 1) = n.testBit i := by
  have e : ((wd n (i / 64) : Nat) : Int) / 2 ^ (i % 64) = ((wd n (i / 64) / 2 ^ (i % 64) : Nat) : Int) := by simp
  have hlt : wd n (i / 64) / 2 ^ (i % 64) < 18446744073709551616 := Nat.lt_of_le_of_lt (Nat.div_le_self _ _) (wd_lt _ _)
  have h := u64_and_nat (wd n (i / 64) / 2 ^ (i % 64)) 1 hlt (by decide)
  rw [Nat.and_one_is_mod] at h
  rw [e, show (1 : Int) = ((1 : Nat) : Int) from rfl, h, ← wd_bit_at n i, Nat.testBit_eq_decide_div_mod_eq]
  rw [Bool.eq_iff_iff]
  simp
  omega
section
set_option maxRecDepth 10000
set_option maxHeartbeats 2000000
end
end Go.Proofs.YtdkemnjkhclbkaaGreatDoor
namespace Go.Proofs.YtdkemnjkhclbkaaGreatDoor
open Go.RowKit
open Go.Deep
theorem wd_top (m i : Nat) (h : m < 18446744073709551616 ^ (i + 1)) : wd m i = m / 18446744073709551616 ^ i := by
  unfold wd dg
  apply Nat.mod_eq_of_lt
  rw [Nat.div_lt_iff_lt_mul (Nat.pow_pos (by decide)), ← Nat.pow_succ']
  exact h
theorem bits_word (m i : Nat) (h : m < 18446744073709551616 ^ (i + 1)) (h0 : wd m i ≠ 0) : bl m = i * 64 + bl (wd m i) := by
  rw [wd_top m i h] at h0 ⊢
  rw [word_pow] at *
  have : 2 ^ (64 * i) ≤ m := by
    rcases Nat.lt_or_ge m (2 ^ (64 * i)) with h' | h'
    · exact absurd (Nat.div_eq_of_lt h') h0
    · exact h'
  rw [bl_shift m (64 * i) this, Nat.mul_comm]
theorem bits_less (m i : Nat) (h : m < 18446744073709551616 ^ (i + 1)) (h0 : wd m i = 0) : m < 18446744073709551616 ^ i := by
  rw [wd_top m i h] at h0
  exact (Nat.div_eq_zero_iff_lt (Nat.pow_pos (by decide))).1 h0
theorem bit_top (m n : Nat) (h : m < 2 ^ (n + 1)) : (m.testBit n = true → bl m = n + 1) ∧ (m.testBit n = false → m < 2 ^ n) := by
  have hp := Nat.two_pow_pos n
  rw [Nat.testBit_eq_decide_div_mod_eq]
  have hd : m / 2 ^ n < 2 := by
    rw [Nat.div_lt_iff_lt_mul hp, ← Nat.pow_succ']
    exact h
  constructor
  · intro e
    have e' : m / 2 ^ n % 2 = 1 := by simpa using e
    refine bl_unique m n ?_ h
    rcases Nat.lt_or_ge m (2 ^ n) with h' | h'
    · rw [Nat.div_eq_of_lt h'] at e'
      omega
    · exact h'
  · intro e
    have e' : ¬ m / 2 ^ n % 2 = 1 := by simpa using e
    refine (Nat.div_eq_zero_iff_lt hp).1 ?_
    generalize m / 2 ^ n = d at *
    omega
section
set_option maxRecDepth 10000
set_option maxHeartbeats 2000000
end
end Go.Proofs.YtdkemnjkhclbkaaGreatDoor
