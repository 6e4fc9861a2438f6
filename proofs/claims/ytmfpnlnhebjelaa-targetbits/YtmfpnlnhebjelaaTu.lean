/- The one form of a target: how near it is; the contract of Form. -/
import Derived.Test.YtmfpnlnhebjelaaTn
import Derived.Test.YtmfpnlnhebjelaaTh
namespace Go.Proofs.Ytmfpnlnhebjelaa
open Go.RowKit
open Go.Deep
theorem szB_low (m : Nat) (h : 0 < m) : 1 ≤ szB m ∧ 2 ^ (8 * (szB m - 1)) ≤ m := by
  have h1 := bl_pos m h
  have h2 := bl_le m h
  have e : 1 ≤ szB m := by unfold szB; omega
  refine ⟨e, Nat.le_trans (Nat.pow_le_pow_right (by decide) ?_) h2⟩
  unfold szB at *
  omega
/-- What the parts of bits say. -/
theorem tgt_parts (s n : Nat) (hn : n < 8388608) : tgt (s * 16777216 + n) = (if s < 3 then n / 2 ^ (8 * (3 - s)) else n * 2 ^ (8 * (s - 3))) ∧ (s * 16777216 + n) / 8388608 % 2 = 0 := by
  have e1 : (s * 16777216 + n) / 16777216 = s := by omega
  have e2 : (s * 16777216 + n) % 8388608 = n := by omega
  refine ⟨?_, by omega⟩
  unfold tgt
  rw [e1, e2]
theorem near_one (m P n : Nat) (hP : 0 < P) (hn : n = m / P) (h : 65536 ≤ n) : n * P ≤ m ∧ (m - n * P) * 32768 < m := by
  have h1 := Nat.div_add_mod m P
  have h2 := Nat.mod_lt m hP
  rw [← hn] at h1
  rw [Nat.mul_comm P n] at h1
  have h3 : 65536 * P ≤ n * P := Nat.mul_le_mul_right P h
  omega
theorem near_two (m P n : Nat) (hP : 0 < P) (hn : n = m / P) (h : 8388608 ≤ n) : n / 256 * (256 * P) ≤ m ∧ (m - n / 256 * (256 * P)) * 32768 < m := by
  have e : n / 256 = m / (256 * P) := by rw [hn, Nat.div_div_eq_div_mul, Nat.mul_comm P]
  have h1 := Nat.div_add_mod m (256 * P)
  have h2 := Nat.mod_lt m (show 0 < 256 * P by omega)
  rw [← e, Nat.mul_comm (256 * P)] at h1
  have h3 := Nat.div_add_mod m P
  rw [← hn, Nat.mul_comm P n] at h3
  have h4 : 8388608 * P ≤ n * P := Nat.mul_le_mul_right P h
  omega
theorem near (m : Nat) (h0 : 0 < m) (hL : m ≤ Lm) : cpt m < 4294967296 ∧ okB (cpt m) = true ∧ tgt (cpt m) ≤ m ∧ (m - tgt (cpt m)) * 32768 < m := by
  have hM : m < M := Nat.lt_of_le_of_lt hL Lm_M
  obtain ⟨s1, s2⟩ := szB_low m h0
  have s32 := szB_le m hM
  have hn := nmB_lt m
  have core : cpt m < 4294967296 ∧ cpt m / 8388608 % 2 = 0 ∧ tgt (cpt m) ≤ m ∧ (m - tgt (cpt m)) * 32768 < m := by
    unfold cpt
    by_cases hge : 8388608 ≤ nmB m
    · rw [if_pos hge]
      obtain ⟨t1, t2⟩ := tgt_parts (szB m + 1) (nmB m / 256) (by omega)
      refine ⟨by omega, t2, ?_⟩
      rw [t1]
      by_cases h3 : szB m < 3
      · have hv : (if szB m + 1 < 3 then nmB m / 256 / 2 ^ (8 * (3 - (szB m + 1))) else nmB m / 256 * 2 ^ (8 * (szB m + 1 - 3))) = m := by
          unfold nmB
          rw [if_pos h3]
          obtain e | e : szB m = 1 ∨ szB m = 2 := by omega
          · rw [e]
            simp only [show 8 * (3 - 1) = 16 by decide, show 8 * (3 - (1 + 1)) = 8 by decide, show (1 + 1 < 3) = True by decide, if_true]
            omega
          · rw [e]
            simp only [show 8 * (3 - 2) = 8 by decide, show 8 * (2 + 1 - 3) = 0 by decide, show (2 + 1 < 3) = False by decide, if_false]
            omega
        rw [hv]
        omega
      · rw [if_neg (by omega)]
        have hnm : nmB m = m / 2 ^ (8 * (szB m - 3)) := by unfold nmB; rw [if_neg h3]
        have e : 2 ^ (8 * (szB m + 1 - 3)) = 256 * 2 ^ (8 * (szB m - 3)) := by
          rw [show 8 * (szB m + 1 - 3) = 8 + 8 * (szB m - 3) by omega, Nat.pow_add]
        rw [e]
        exact near_two m _ _ (Nat.two_pow_pos _) hnm hge
    · rw [if_neg hge]
      obtain ⟨t1, t2⟩ := tgt_parts (szB m) (nmB m) (by omega)
      refine ⟨by omega, t2, ?_⟩
      rw [t1]
      by_cases h3 : szB m < 3
      · rw [if_pos h3]
        have hv : nmB m / 2 ^ (8 * (3 - szB m)) = m := by
          unfold nmB
          rw [if_pos h3]
          exact Nat.mul_div_cancel _ (Nat.two_pow_pos _)
        rw [hv]
        omega
      · rw [if_neg h3]
        have hnm : nmB m = m / 2 ^ (8 * (szB m - 3)) := by unfold nmB; rw [if_neg h3]
        refine near_one m _ _ (Nat.two_pow_pos _) hnm ?_
        rw [hnm, Nat.le_div_iff_mul_le (Nat.two_pow_pos _)]
        refine Nat.le_trans ?_ s2
        rw [show 8 * (szB m - 1) = 16 + 8 * (szB m - 3) by omega, Nat.pow_add]
        exact Nat.le_refl _
  obtain ⟨c1, c2, c3, c4⟩ := core
  refine ⟨c1, ?_, c3, c4⟩
  rw [okB_iff]
  exact ⟨c2, by omega, by omega⟩
section
set_option maxRecDepth 10000
set_option maxHeartbeats 2000000
theorem form_any (b : Nat) (hb : b < 4294967296) (w : World) : Calls Try.prog 24 #[.int .u32 (b : Int)] w fun e w' => e = .returned (.bool (okB b && decide (cpt (xt b) = b))) ∧ Below w.heap.size w w' := by
  have HE := hide fun W => expand_any b hb W
  have hx : xt b < M := Nat.lt_of_le_of_lt (xt_le b) Lm_M
  have HC := hide fun W => compact_any (xt b) hx W
  have hd : decide (cpt (xt b) = b) = (((cpt (xt b) : Nat) : Int) == (b : Int)) := by
    rw [Bool.eq_iff_iff]
    simp
    omega
  rw [hd]
  generalize cpt (xt b) = c at *
  generalize xt b = T at *
  generalize okB b = ok at *
  clear hd hx hb
  cases ok
  · rw [Bool.false_and]
    simp only [Bool.false_eq_true, if_false] at HE
    go_enter Try.func24, Try.ntmps24
    go_wp2_with (first | (go_at_call 18; refine (HE.out _).mono ?_; rintro e w1 ⟨rfl, be⟩; have J1 := hide (below_next be (below_allocZ w1 (.cells (wn T) 24))); clear be) | refine wpList_allocA AW rfl rfl ?_ | refine wpList_store_newA AW rfl _ _ rfl _ rfl (wn T) (wn_size _) (wn_one _) rfl rfl ?_)
    go_ret
    exact ⟨rfl, J1.out⟩
  · rw [Bool.true_and]
    simp only [if_true] at HE
    go_enter Try.func24, Try.ntmps24
    go_upto_region 2 with (first | (go_at_call 18; refine (HE.out _).mono ?_; rintro e w1 ⟨rfl, be⟩; have J1 := hide (below_next be (below_allocZ w1 (.cells (wn T) 24))); clear be) | refine wpList_allocA AW rfl rfl ?_ | refine wpList_store_newA AW rfl _ _ rfl _ rfl (wn T) (wn_size _) (wn_one _) rfl rfl ?_)
    have r1 := hide (heap_alloc_last w1 (.cells (wn T) 24))
    generalize w1.alloc (.cells (wn T) 24) = W1 at *
    go_wp2_with (first | refine wpList_loadW AW rfl _ rfl _ rfl (wn T) (wn_size _) 24 r1.out ?_ | (go_at_call 21; refine (HC.out _).mono ?_; rintro e w2 ⟨rfl, be⟩; have J2 := hide (below_next J1.out be); clear be))
    go_ret
    exact ⟨rfl, J2.out⟩
end
end Go.Proofs.Ytmfpnlnhebjelaa
