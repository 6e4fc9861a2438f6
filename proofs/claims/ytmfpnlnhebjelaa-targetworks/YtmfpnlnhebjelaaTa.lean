/- Targets: the mathematics of bits; the contracts of target.said and Limit. -/
import Derived.Test.YtmfpnlnhebjelaaZi
import Derived.Test.YtmfpnlnhebjelaaZd
import Derived.Test.YtmfpnlnhebjelaaWp
namespace Go.Proofs.Ytmfpnlnhebjelaa
open Go.RowKit
open Go.Deep
/-- The target that bits say. -/
def tgt (b : Nat) : Nat := if b / 16777216 < 3 then b % 8388608 / 2 ^ (8 * (3 - b / 16777216)) else b % 8388608 * 2 ^ (8 * (b / 16777216 - 3))
theorem and_low (b : Nat) (hb : b < 4294967296) : bits .and .u32 (b : Int) 8388607 = ((b % 8388608 : Nat) : Int) := by
  have e := u32_and_nat b 8388607 hb (by decide)
  rw [show ((8388607 : Nat) : Int) = 8388607 from rfl] at e
  rw [e]
  congr 1
  exact Nat.and_two_pow_sub_one_eq_mod b 23
theorem and_pow (b k : Nat) : b &&& 2 ^ k = if b / 2 ^ k % 2 = 1 then 2 ^ k else 0 := by
  apply Nat.eq_of_testBit_eq
  intro i
  rw [Nat.testBit_and, Nat.testBit_two_pow]
  by_cases h : k = i
  · subst h
    rw [Nat.testBit_eq_decide_div_mod_eq]
    by_cases h2 : b / 2 ^ k % 2 = 1 <;> simp [h2]
  · simp only [h, decide_false, Bool.and_false]
    split
    · rw [Nat.testBit_two_pow]
      simp [h]
    · simp
theorem and_bit (b : Nat) (hb : b < 4294967296) : (bits .and .u32 (b : Int) 8388608 != 0) = decide (b / 8388608 % 2 = 1) := by
  have e := u32_and_nat b 8388608 hb (by decide)
  rw [show ((8388608 : Nat) : Int) = 8388608 from rfl] at e
  have e2 : b &&& 8388608 = if b / 8388608 % 2 = 1 then 8388608 else 0 := and_pow b 23
  rw [e, e2]
  by_cases h : b / 8388608 % 2 = 1
  · rw [if_pos h]
    simp only [h]
    decide
  · rw [if_neg h]
    simp only [h]
    decide
theorem big_none (a k : Nat) (h : 256 ≤ k) : wn (a * 2 ^ k) = wn 0 ∧ decide (M ≤ a * 2 ^ k) = decide (0 < a) := by
  have e : 2 ^ k = M * 2 ^ (k - 256) := by rw [M_pow, ← Nat.pow_add, show 256 + (k - 256) = k by omega]
  have hp := Nat.two_pow_pos (k - 256)
  constructor
  · rw [e, Nat.mul_left_comm, ← wn_mod, Nat.mul_mod_right]
  · rw [Bool.eq_iff_iff]
    simp only [decide_eq_true_eq]
    constructor
    · intro h1
      rcases Nat.eq_zero_or_pos a with h2 | h2
      · subst h2
        rw [Nat.zero_mul] at h1
        exact absurd h1 (by decide)
      · exact h2
    · intro h1
      rw [e, Nat.mul_left_comm]
      exact Nat.le_mul_of_pos_right M (Nat.mul_pos h1 hp)
section
set_option maxRecDepth 10000
set_option maxHeartbeats 2000000
theorem said_any (b : Nat) (hb : b < 4294967296) (w : World) : Calls Try.prog 45 #[.int .u32 (b : Int)] w fun e w' => e = .returned (.tuple #[.agg (wn (tgt b)), .bool (decide (M ≤ tgt b))]) ∧ Below w.heap.size w w' := by
  have hl := and_low b hb
  have hmm : b % 8388608 < 18446744073709551616 := by omega
  have HF := hide fun W => from_any (b % 8388608) hmm W
  have hmM : b % 8388608 < M := Nat.lt_trans hmm (by decide)
  have hs : (b : Int) / 16777216 = ((b / 16777216 : Nat) : Int) := by omega
  have hs8 : b / 16777216 < 256 := by omega
  have w1 : IntKind.i64.wrap ((b / 16777216 : Nat) : Int) = ((b / 16777216 : Nat) : Int) := wrapI _ (by omega) (by omega)
  have w2 : IntKind.i64.wrap (((b / 16777216 : Nat) : Int) - 3) = ((b / 16777216 : Nat) : Int) - 3 := wrapI _ (by omega) (by omega)
  have w3 : IntKind.i64.wrap (8 * (((b / 16777216 : Nat) : Int) - 3)) = 8 * (((b / 16777216 : Nat) : Int) - 3) := wrapI _ (by omega) (by omega)
  have w4 : IntKind.u64.wrap ((b % 8388608 : Nat) : Int) = ((b % 8388608 : Nat) : Int) := wrapu _ (by omega) (by omega)
  have HL : Hid (∀ W, Calls Try.prog 60 #[.agg (wn (b % 8388608)), .int .i64 (8 * (((b / 16777216 : Nat) : Int) - 3))] W fun e w' => e = .returned (.tuple #[.agg (wn (tgt b)), .bool (decide (M ≤ tgt b))]) ∧ Below W.heap.size W w') := by
    intro W
    unfold tgt
    generalize b / 16777216 = s at *
    generalize b % 8388608 = u at *
    by_cases h3 : s < 3
    · rw [if_pos h3]
      have := left_neg u (8 * ((s : Int) - 3)) (8 * (3 - s)) hmM (by omega) (by unfold sh; rw [if_neg (by omega), if_neg (by omega)]; omega) (by omega) W
      have hlt : u / 2 ^ (8 * (3 - s)) < M := Nat.lt_of_le_of_lt (Nat.div_le_self _ _) hmM
      rw [show decide (M ≤ u / 2 ^ (8 * (3 - s))) = false by simp; omega]
      exact this
    · rw [if_neg h3]
      by_cases hk : 8 * (s - 3) ≤ 256
      · exact left_pos u (8 * ((s : Int) - 3)) (8 * (s - 3)) hmM (by unfold sh; rw [if_neg (by omega), if_neg (by omega)]; omega) hk W
      · have := left_pos u (8 * ((s : Int) - 3)) 256 hmM (by unfold sh; rw [if_neg (by omega), if_pos (by omega)]; rfl) (by omega) W
        rw [(big_none u 256 (by omega)).1, (big_none u 256 (by omega)).2] at this
        rw [(big_none u (8 * (s - 3)) (by omega)).1, (big_none u (8 * (s - 3)) (by omega)).2]
        exact this
  have J0 := hide (heap_alloc_last w (.cells (wn 0) 24))
  have B0 := hide ((Below.refl w.heap.size w).alloc (Nat.le_refl _) (.cells (wn 0) 24))
  generalize tgt b = T at *
  generalize decide (M ≤ T) = ov at *
  clear hmm hmM hs8
  generalize b % 8388608 = u at *
  generalize b / 16777216 = s at *
  go_enter Try.func45, Try.ntmps45
  go_upto_region 1 with (refine wpList_allocA AW rfl rfl ?_)
  generalize w.alloc (.cells (wn 0) 24) = W0 at *
  go_wp2_with (first | (go_at_call 14; refine (HF.out _).mono ?_; rintro e w1 ⟨rfl, b1⟩; have J1 := hide ((b1.block _ (lt_heap J0.out)).trans J0.out); have B1 := hide (below_next B0.out b1); clear b1) | (go_at_call 60; refine (HL.out _).mono ?_; rintro e w2 ⟨rfl, b2⟩; have J2 := hide ((b2.block _ (lt_heap J1.out)).trans J1.out); have B2 := hide (below_next B1.out b2); clear b2) | refine wpList_storeA AW rfl _ _ rfl _ (wn T) (wn_size _) (wn_one _) rfl rfl (wn 0) (wn_size 0) 24 J2.out ?_)
  exact bodyPost_ret (v := .tuple #[.agg (wn T), .bool ov]) (resA2 AW Try.results45 _ _ w.heap.size 24 (wn T) (wn_size _) rfl (setRow_heap _ _ _ _ _ _ J2.out) _ (by rfl)) rfl ⟨rfl, below_setRow B2.out (Nat.le_refl _) _⟩
end
end Go.Proofs.Ytmfpnlnhebjelaa
