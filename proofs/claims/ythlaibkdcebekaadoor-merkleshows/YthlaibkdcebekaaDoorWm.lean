/- Numbers of 256 bits: the mathematics of words and digits. -/
import Derived.Test.YthlaibkdcebekaaDoorRows
namespace Go.Proofs.YthlaibkdcebekaaDoor
/-- The digit i of a number to the base B. -/
def dg (B n i : Nat) : Nat := n / B ^ i % B
/-- The number of the first k digits. -/
def vs (B : Nat) (f : Nat → Nat) : Nat → Nat
  | 0 => 0
  | k + 1 => vs B f k + f k * B ^ k
theorem dg_lt {B : Nat} (h : 0 < B) (n i : Nat) : dg B n i < B := Nat.mod_lt _ h
theorem vs_congr (B : Nat) {f g : Nat → Nat} : ∀ {k : Nat}, (∀ i, i < k → f i = g i) → vs B f k = vs B g k
  | 0, _ => rfl
  | k + 1, h => by rw [vs, vs, vs_congr B (fun i hi => h i (by omega)), h k (by omega)]
theorem vs_lt {B : Nat} {f : Nat → Nat} : ∀ {k : Nat}, (∀ i, i < k → f i < B) → vs B f k < B ^ k
  | 0, _ => by simp [vs]
  | k + 1, h => by
    have h1 := vs_lt (k := k) (fun i hi => h i (by omega))
    have h2 : f k + 1 ≤ B := h k (by omega)
    have h3 : (f k + 1) * B ^ k ≤ B * B ^ k := Nat.mul_le_mul_right _ h2
    rw [vs, Nat.pow_succ, Nat.mul_comm (B ^ k) B]
    rw [Nat.add_mul, Nat.one_mul] at h3
    omega
theorem dg_vs {B : Nat} {f : Nat → Nat} : ∀ {k : Nat}, (∀ i, i < k → f i < B) → ∀ i, i < k → dg B (vs B f k) i = f i
  | 0, _, i, hi => by omega
  | k + 1, h, i, hi => by
    have hB : 0 < B := Nat.lt_of_le_of_lt (Nat.zero_le _) (h i hi)
    rcases Nat.lt_or_ge i k with hk | hk
    · have ih := dg_vs (k := k) (fun i hi => h i (by omega)) i hk
      unfold dg at ih ⊢
      rw [vs, show B ^ k = B ^ i * (B * B ^ (k - i - 1)) by rw [← Nat.pow_succ', ← Nat.pow_add]; congr 1; omega, ← Nat.mul_assoc, Nat.mul_comm (f k), Nat.mul_assoc, Nat.add_mul_div_left _ _ (Nat.pow_pos hB), Nat.mul_comm (f k), Nat.mul_assoc, Nat.add_mul_mod_self_left]
      exact ih
    · have : i = k := by omega
      subst this
      have h1 := vs_lt (k := i) (fun j hj => h j (by omega))
      unfold dg
      rw [vs, Nat.add_mul_div_right _ _ (Nat.pow_pos hB), Nat.div_eq_of_lt h1, Nat.zero_add, Nat.mod_eq_of_lt (h i hi)]
theorem vs_dg (B n : Nat) : ∀ k, vs B (dg B n) k = n % B ^ k
  | 0 => by simp [vs, Nat.mod_one]
  | k + 1 => by rw [vs, vs_dg B n k, Nat.pow_succ, Nat.mod_mul, dg, Nat.mul_comm]
/-- The next digit of a remainder. -/
theorem mod_next (B n k : Nat) : n % B ^ (k + 1) = n % B ^ k + dg B n k * B ^ k := by
  rw [Nat.pow_succ, Nat.mod_mul, dg, Nat.mul_comm (B ^ k)]
theorem dg_mod (B n k i : Nat) (h : i < k) : dg B (n % B ^ k) i = dg B n i := by
  rcases Nat.eq_zero_or_pos B with hB | hB
  · subst hB
    rw [Nat.zero_pow (by omega), Nat.mod_zero]
  · rw [← vs_dg]
    exact dg_vs (fun j _ => dg_lt hB n j) i h
theorem dg_ext {B m n k : Nat} (hm : m < B ^ k) (hn : n < B ^ k) (h : ∀ i, i < k → dg B m i = dg B n i) : m = n := by
  have e1 := vs_dg B m k
  have e2 := vs_dg B n k
  rw [Nat.mod_eq_of_lt hm] at e1
  rw [Nat.mod_eq_of_lt hn] at e2
  rw [← e1, ← e2]
  exact vs_congr B h
theorem dg_zero (B i : Nat) : dg B 0 i = 0 := by simp [dg]
/-- Sums, digit by digit. -/
theorem add_digit (B m n i : Nat) (hB : 0 < B) : dg B (m + n) i = (dg B m i + dg B n i + (m % B ^ i + n % B ^ i) / B ^ i) % B := by
  unfold dg
  have hP : 0 < B ^ i := Nat.pow_pos hB
  generalize B ^ i = P at *
  have e : m + n = P * (m / P + n / P) + (m % P + n % P) := by
    have h1 := Nat.div_add_mod m P
    have h2 := Nat.div_add_mod n P
    rw [Nat.mul_add]
    omega
  rw [e, Nat.mul_add_div hP]
  rw [Nat.add_mod (_ + _) ((m % P + n % P) / P), Nat.add_mod (m / P) (n / P), ← Nat.add_mod]
theorem add_carry (B m n i : Nat) (hB : 0 < B) : (m % B ^ (i + 1) + n % B ^ (i + 1)) / B ^ (i + 1) = (dg B m i + dg B n i + (m % B ^ i + n % B ^ i) / B ^ i) / B := by
  rw [mod_next, mod_next]
  have hP : 0 < B ^ i := Nat.pow_pos hB
  rw [Nat.pow_succ, ← Nat.div_div_eq_div_mul]
  congr 1
  rw [show m % B ^ i + dg B m i * B ^ i + (n % B ^ i + dg B n i * B ^ i) = (m % B ^ i + n % B ^ i) + (dg B m i + dg B n i) * B ^ i by rw [Nat.add_mul]; omega, Nat.add_mul_div_right _ _ hP]
  omega
theorem carry_le (B m n i : Nat) (hB : 0 < B) : (m % B ^ i + n % B ^ i) / B ^ i ≤ 1 := by
  have hP : 0 < B ^ i := Nat.pow_pos hB
  have h1 := Nat.mod_lt m hP
  have h2 := Nat.mod_lt n hP
  have : (m % B ^ i + n % B ^ i) / B ^ i < 2 := by rw [Nat.div_lt_iff_lt_mul hP]; omega
  omega
/-- A product, digit by digit: a step of the inner loop. -/
theorem mul_step (B : Nat) (f f' g : Nat → Nat) (i k a b c s : Nat)
    (h : vs B f (i + k) + c * B ^ (i + k) = vs B g (i + k) + a * (b % B ^ k) * B ^ i)
    (hs : s = g (i + k) + a * dg B b k + c) (hf : ∀ j, j < i + k → f' j = f j) (hf2 : f' (i + k) = s % B) :
    vs B f' (i + (k + 1)) + s / B * B ^ (i + (k + 1)) = vs B g (i + (k + 1)) + a * (b % B ^ (k + 1)) * B ^ i := by
  have e1 : vs B f' (i + k) = vs B f (i + k) := vs_congr B hf
  rw [show i + (k + 1) = i + k + 1 by omega, vs, vs, e1, hf2, mod_next, Nat.pow_succ, Nat.pow_add] at *
  have e2 := Nat.div_add_mod s B
  have e3 : s % B * (B ^ i * B ^ k) + s / B * (B ^ i * B ^ k * B) = s * (B ^ i * B ^ k) := by
    conv => rhs; rw [← e2]
    rw [Nat.add_mul, Nat.mul_comm B (s / B), Nat.mul_assoc (s / B) B, Nat.mul_comm B, Nat.add_comm]
  have e4 : s * (B ^ i * B ^ k) = g (i + k) * (B ^ i * B ^ k) + a * dg B b k * (B ^ i * B ^ k) + c * (B ^ i * B ^ k) := by rw [hs, Nat.add_mul, Nat.add_mul]
  have e5 : a * (b % B ^ k + dg B b k * B ^ k) * B ^ i = a * (b % B ^ k) * B ^ i + a * dg B b k * (B ^ i * B ^ k) := by
    rw [Nat.mul_add, Nat.add_mul]
    congr 1
    rw [← Nat.mul_assoc a, Nat.mul_assoc _ (B ^ k), Nat.mul_comm (B ^ k)]
  rw [e5]
  omega
theorem mul_row (B : Nat) (f f' g : Nat → Nat) (i N a b c : Nat) (hb : b < B ^ N) (hg : vs B g (i + N) = a % B ^ i * b)
    (h : vs B f (i + N) + c * B ^ (i + N) = vs B g (i + N) + dg B a i * (b % B ^ N) * B ^ i) (hf : ∀ j, j < i + N → f' j = f j) (hf2 : f' (i + N) = c) :
    vs B f' (i + 1 + N) = a % B ^ (i + 1) * b := by
  have e1 : vs B f' (i + N) = vs B f (i + N) := vs_congr B hf
  rw [show i + 1 + N = i + N + 1 by omega, vs, e1, hf2, h, hg, mod_next, Nat.mod_eq_of_lt hb, Nat.add_mul]
  congr 1
  rw [Nat.mul_assoc, Nat.mul_comm b, ← Nat.mul_assoc]
/-- How many bits a number has. -/
def bl (n : Nat) : Nat := if n = 0 then 0 else n.log2 + 1
theorem bl_lt (n : Nat) : n < 2 ^ bl n := by
  unfold bl
  split
  · subst n; decide
  · exact Nat.lt_log2_self
theorem bl_le (n : Nat) (h : 0 < n) : 2 ^ (bl n - 1) ≤ n := by
  unfold bl
  rw [if_neg (by omega)]
  simpa using Nat.log2_self_le (by omega)
theorem bl_zero : bl 0 = 0 := rfl
theorem bl_pos (n : Nat) (h : 0 < n) : 0 < bl n := by
  unfold bl
  rw [if_neg (by omega)]
  omega
theorem bl_unique (n k : Nat) (h1 : 2 ^ k ≤ n) (h2 : n < 2 ^ (k + 1)) : bl n = k + 1 := by
  have h0 := Nat.two_pow_pos k
  have a1 := bl_lt n
  have a2 := bl_le n (by omega)
  have a3 := bl_pos n (by omega)
  have b1 : k < bl n := (Nat.pow_lt_pow_iff_right (a := 2) (by decide)).1 (Nat.lt_of_le_of_lt h1 a1)
  have b2 : bl n - 1 < k + 1 := (Nat.pow_lt_pow_iff_right (a := 2) (by decide)).1 (Nat.lt_of_le_of_lt a2 h2)
  omega
theorem bl_le_of (n k : Nat) (h : n < 2 ^ k) : bl n ≤ k := by
  rcases Nat.eq_zero_or_pos n with h0 | h0
  · subst h0; simp [bl_zero]
  · have a2 := bl_le n h0
    have b2 : bl n - 1 < k := (Nat.pow_lt_pow_iff_right (a := 2) (by decide)).1 (Nat.lt_of_le_of_lt a2 h)
    omega
theorem bl_shift (n k : Nat) (h : 2 ^ k ≤ n) : bl n = k + bl (n / 2 ^ k) := by
  have h0 := Nat.two_pow_pos k
  have hq : 0 < n / 2 ^ k := Nat.div_pos h h0
  have a1 := bl_lt (n / 2 ^ k)
  have a2 := bl_le (n / 2 ^ k) hq
  have a3 := bl_pos (n / 2 ^ k) hq
  generalize bl (n / 2 ^ k) = m at *
  obtain ⟨m, rfl⟩ : ∃ m', m = m' + 1 := ⟨m - 1, by omega⟩
  rw [Nat.add_sub_cancel] at a2
  have e := bl_unique n (k + m) (by
    rw [Nat.pow_add, Nat.mul_comm]
    exact (Nat.le_div_iff_mul_le h0).1 a2) (by
    rw [Nat.add_assoc, Nat.pow_add, Nat.mul_comm]
    exact (Nat.div_lt_iff_lt_mul h0).1 a1)
  omega
end Go.Proofs.YthlaibkdcebekaaDoor
