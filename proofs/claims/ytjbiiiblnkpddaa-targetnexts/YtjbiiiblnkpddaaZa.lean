/- The contracts of the document's Compare and Not, and of wide.Not. -/
import Derived.Test.YtjbiiiblnkpddaaWk
namespace Go.Proofs.Ytjbiiiblnkpddaa
open Go.RowKit
open Go.Deep
theorem div_word_step (m i : Nat) : m / 18446744073709551616 ^ i = 18446744073709551616 * (m / 18446744073709551616 ^ (i + 1)) + wd m i := by
  unfold wd dg
  rw [Nat.pow_succ, ← Nat.div_div_eq_div_mul]
  exact (Nat.div_add_mod _ _).symm
theorem cmp_eq {m n i : Nat} (h : m / 18446744073709551616 ^ (i + 1) = n / 18446744073709551616 ^ (i + 1)) (e : wd m i = wd n i) : m / 18446744073709551616 ^ i = n / 18446744073709551616 ^ i := by
  rw [div_word_step, div_word_step n, h, e]
theorem cmp_lt {m n i : Nat} (h : m / 18446744073709551616 ^ (i + 1) = n / 18446744073709551616 ^ (i + 1)) (e : wd m i < wd n i) : m < n := by
  have h1 := div_word_step m i
  have h2 := div_word_step n i
  rw [h] at h1
  rcases Nat.lt_or_ge m n with h' | h'
  · exact h'
  · have := Nat.div_le_div_right (c := 18446744073709551616 ^ i) h'
    omega
theorem not_word (m i : Nat) (hm : m < M) (hi : i < 4) : wd (M - 1 - m) i = 18446744073709551615 - wd m i := by
  have h1 := add_word (M - 1 - m) m i
  rw [show M - 1 - m + m = M - 1 by omega] at h1
  have hP : 0 < 18446744073709551616 ^ i := Nat.pow_pos (by decide)
  have hall : ∀ k, k ≤ 4 → (M - 1) % 18446744073709551616 ^ k = 18446744073709551616 ^ k - 1 := by
    intro k hk
    have hk : k = 0 ∨ k = 1 ∨ k = 2 ∨ k = 3 ∨ k = 4 := by omega
    rcases hk with rfl | rfl | rfl | rfl | rfl <;> decide
  have hw : wd (M - 1) i = 18446744073709551615 := by
    have hi' : i = 0 ∨ i = 1 ∨ i = 2 ∨ i = 3 := by omega
    rcases hi' with rfl | rfl | rfl | rfl <;> decide
  have hc : cy (M - 1 - m) m i = 0 := by
    unfold cy
    apply Nat.div_eq_of_lt
    have e := Nat.add_mod (M - 1 - m) m (18446744073709551616 ^ i)
    rw [show M - 1 - m + m = M - 1 by omega, hall i (by omega)] at e
    have a1 := Nat.mod_lt (M - 1 - m) hP
    have a2 := Nat.mod_lt m hP
    generalize (M - 1 - m) % 18446744073709551616 ^ i = a at *
    generalize m % 18446744073709551616 ^ i = b at *
    generalize 18446744073709551616 ^ i = P at *
    rcases Nat.lt_or_ge (a + b) P with h | h
    · exact h
    · rw [Nat.mod_eq_sub_mod h, Nat.mod_eq_of_lt (by omega)] at e
      omega
  rw [hc, hw] at h1
  have b1 := wd_lt (M - 1 - m) i
  have b2 := wd_lt m i
  omega
section
set_option maxRecDepth 10000
set_option maxHeartbeats 2000000
end
end Go.Proofs.Ytjbiiiblnkpddaa
