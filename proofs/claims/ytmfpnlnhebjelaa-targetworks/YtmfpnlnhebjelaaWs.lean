/- The contracts of wide.Bits, the document's Bits, Not, Compare, and wide.Not. -/
import Derived.Test.YtmfpnlnhebjelaaWr
namespace Go.Proofs.Ytmfpnlnhebjelaa
open Go.RowKit
open Go.Deep
theorem wd_top (m i : Nat) (h : m < 18446744073709551616 ^ (i + 1)) : wd m i = m / 18446744073709551616 ^ i := by
  unfold wd dg
  apply Nat.mod_eq_of_lt
  rw [Nat.div_lt_iff_lt_mul (Nat.pow_pos (by decide)), ← Nat.pow_succ']
  exact h
theorem bits_word (m i : Nat) (h : m < 18446744073709551616 ^ (i + 1)) (h0 : wd m i ≠ 0) : bl m = i * 64 + bl (wd m i) := by
  rw [wd_top m i h] at h0 ⊢
  rw [word_pow] at *
  have : 2 ^ (64 * i) ≤ m := by
    rcases Nat.lt_or_ge m (2 ^ (64 * i)) with h' | h'
    · exact absurd (Nat.div_eq_of_lt h') h0
    · exact h'
  rw [bl_shift m (64 * i) this, Nat.mul_comm]
theorem bits_less (m i : Nat) (h : m < 18446744073709551616 ^ (i + 1)) (h0 : wd m i = 0) : m < 18446744073709551616 ^ i := by
  rw [wd_top m i h] at h0
  exact (Nat.div_eq_zero_iff_lt (Nat.pow_pos (by decide))).1 h0
theorem bit_top (m n : Nat) (h : m < 2 ^ (n + 1)) : (m.testBit n = true → bl m = n + 1) ∧ (m.testBit n = false → m < 2 ^ n) := by
  have hp := Nat.two_pow_pos n
  rw [Nat.testBit_eq_decide_div_mod_eq]
  have hd : m / 2 ^ n < 2 := by
    rw [Nat.div_lt_iff_lt_mul hp, ← Nat.pow_succ']
    exact h
  constructor
  · intro e
    have e' : m / 2 ^ n % 2 = 1 := by simpa using e
    refine bl_unique m n ?_ h
    rcases Nat.lt_or_ge m (2 ^ n) with h' | h'
    · rw [Nat.div_eq_of_lt h'] at e'
      omega
    · exact h'
  · intro e
    have e' : ¬ m / 2 ^ n % 2 = 1 := by simpa using e
    refine (Nat.div_eq_zero_iff_lt hp).1 ?_
    generalize m / 2 ^ n = d at *
    omega
section
set_option maxRecDepth 10000
set_option maxHeartbeats 2000000
theorem bits_any (m : Nat) (hm : m < M) (w : World) : Calls Try.prog 48 #[.agg (wn m)] w fun e w' => e = .returned (.int .i64 ((bl m : Nat) : Int)) ∧ Below w.heap.size w w' := by
  have hA : Hid (Nd (w.alloc (.cells (wn m) 24)) w.heap.size 24 4 (wd m)) := nd_alloc w 24 m
  have BB := hide ((Below.refl w.heap.size w).alloc (Nat.le_refl _) (.cells (wn m) 24))
  have H4 : Hid (m < 18446744073709551616 ^ 4) := by rw [M_eq] at hm; exact hm
  clear hm
  go_enter Try.func48, Try.ntmps48
  go_wp2_with (refine wpList_boxA rfl _ rfl (wn m) rfl ?_)
  generalize w.alloc (.cells (wn m) 24) = W0 at *
  go_loopw [3] (fun d wr => ∃ i : Nat, i ≤ 4 ∧ d = .int .i64 ((i : Int) - 1) ∧ wr = W0 ∧ Hid (m < 18446744073709551616 ^ i)) (fun d _ => (1 + intOf d).toNat)
  case atStart => exact ⟨4, by omega, rfl, rfl, H4⟩
  case round =>
    obtain ⟨i, hi, rfl, hwr, H⟩ := hrel
    subst wr
    rcases i with _ | i
    · have h0 : ¬ (0 : Int) ≤ ((0 : Nat) : Int) - 1 := by omega
      have hz : m = 0 := by have := H.out; rw [Nat.pow_zero] at this; omega
      have hb : Hid (bl m = 0) := by unfold Hid; rw [hz, bl_zero]
      clear hz
      go_wp2
      go_ret
      exact ⟨by rw [hb.out]; rfl, BB.out⟩
    · have e1 : ((i + 1 : Nat) : Int) - 1 = i := by omega
      have hi4 : (i : Int) < 4 := by omega
      have b0 : (0 : Int) ≤ i := by omega
      have hc := hA.out.cell (show i < 4 by omega)
      rw [e1]
      by_cases h0 : wd m i = 0
      · have H1 := hide (bits_less m i H.out h0)
        rw [h0] at hc
        clear h0
        go_wp2
        exact ⟨⟨i, by omega, rfl, trivial, H1⟩, by simp [intOf]; omega⟩
      · have hb := hide (bits_word m i H.out h0)
        have hne : (((wd m i : Nat) : Int) != 0) = true := by simp; exact h0
        have hn0 : ((wd m i : Nat) : Int) ≠ 0 := by omega
        have HL := hide fun W => len64_int ((wd m i : Nat) : Int) (by omega) (by have := wd_lt m i; omega) W
        rw [Int.toNat_natCast] at HL
        have hl : bl (wd m i) ≤ 64 := bl_le_of _ 64 (wd_lt m i)
        have w1 : IntKind.i64.wrap ((i : Int) * 64) = i * 64 := wrapI _ (by omega) (by omega)
        have w2 : IntKind.i64.wrap ((i : Int) * 64 + ((bl (wd m i) : Nat) : Int)) = ((bl m : Nat) : Int) := by
          rw [wrapI _ (by omega) (by omega), hb.out]
          omega
        clear h0
        generalize bl (wd m i) = L at *
        generalize hX : ((wd m i : Nat) : Int) = X at *
        clear hX
        go_wp2_with (go_at_call 62; refine (HL.out _).mono ?_; rintro e w3 ⟨rfl, hw3⟩; subst w3)
        go_ret
        exact ⟨rfl, BB.out⟩
end
end Go.Proofs.Ytmfpnlnhebjelaa
