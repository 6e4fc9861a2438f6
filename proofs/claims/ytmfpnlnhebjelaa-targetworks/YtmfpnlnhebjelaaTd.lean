/- The contract of target.Compact; awake. -/
import Derived.Test.YtmfpnlnhebjelaaTc
namespace Go.Proofs.Ytmfpnlnhebjelaa
open Go.RowKit
open Go.Deep
/-- How many bytes a number has; its three highest; its bits. -/
def szB (m : Nat) : Nat := (bl m + 7) / 8
def nmB (m : Nat) : Nat := if szB m < 3 then m * 2 ^ (8 * (3 - szB m)) else m / 2 ^ (8 * (szB m - 3))
def cpt (m : Nat) : Nat := if 8388608 ≤ nmB m then (szB m + 1) * 16777216 + nmB m / 256 else szB m * 16777216 + nmB m
theorem szB_le (m : Nat) (hm : m < M) : szB m ≤ 32 := by
  have := bl_le_of m 256 (by rw [← M_pow]; exact hm)
  unfold szB
  omega
theorem szB_lt (m : Nat) : m < 2 ^ (8 * szB m) := by
  have h := bl_lt m
  have : 2 ^ bl m ≤ 2 ^ (8 * szB m) := Nat.pow_le_pow_right (by decide) (by unfold szB; omega)
  omega
theorem nmB_lt (m : Nat) : nmB m < 16777216 := by
  have h := szB_lt m
  unfold nmB
  split
  · rename_i h3
    have e : (16777216 : Nat) = 2 ^ (8 * szB m) * 2 ^ (8 * (3 - szB m)) := by rw [← Nat.pow_add, show 8 * szB m + 8 * (3 - szB m) = 24 by omega]
    rw [e]
    exact Nat.mul_lt_mul_of_pos_right h (Nat.two_pow_pos _)
  · rename_i h3
    rw [Nat.div_lt_iff_lt_mul (Nat.two_pow_pos _)]
    have e : (16777216 : Nat) * 2 ^ (8 * (szB m - 3)) = 2 ^ (8 * szB m) := by rw [show (16777216 : Nat) = 2 ^ 24 from rfl, ← Nat.pow_add, show 24 + 8 * (szB m - 3) = 8 * szB m by omega]
    rw [e]
    exact h
theorem and_bit64 (n : Nat) (hn : n < 16777216) : (bits .and .u64 (n : Int) 8388608 != 0) = decide (8388608 ≤ n) := by
  have e := u64_and_nat n 8388608 (by omega) (by decide)
  rw [show ((8388608 : Nat) : Int) = 8388608 from rfl] at e
  have e2 : n &&& 8388608 = if n / 8388608 % 2 = 1 then 8388608 else 0 := and_pow n 23
  rw [e, e2]
  by_cases h : 8388608 ≤ n
  · rw [if_pos (by omega)]
    simp only [h]
    decide
  · rw [if_neg (by omega)]
    simp only [h]
    decide
theorem or_size (s n : Nat) (hs : s ≤ 255) (hn : n < 16777216) : bits .or .u32 ((s : Int) % 4294967296 * 16777216 % 4294967296) ((n : Int) % 4294967296) = ((s * 16777216 + n : Nat) : Int) := by
  rw [show (s : Int) % 4294967296 * 16777216 % 4294967296 = ((s * 16777216 : Nat) : Int) by omega, show (n : Int) % 4294967296 = (n : Int) by omega]
  rw [u32_or_nat _ _ (by omega) (by omega)]
  congr 1
  have := Nat.two_pow_add_eq_or_of_lt (i := 24) (b := n) hn s
  rw [Nat.mul_comm s, show (16777216 : Nat) = 2 ^ 24 from rfl, this]
section
set_option maxRecDepth 10000
set_option maxHeartbeats 2000000
theorem compact_any (m : Nat) (hm : m < M) (w : World) : Calls Try.prog 21 #[.agg (wn m)] w fun e w' => e = .returned (.int .u32 ((cpt m : Nat) : Int)) ∧ Below w.heap.size w w' := by
  have HB := hide fun W => bits_any m hm W
  have hs := szB_le m hm
  have hn := nmB_lt m
  have hb := bl_le_of m 256 (by rw [← M_pow]; exact hm)
  have hnM : nmB m < M := Nat.lt_trans hn (by decide)
  have HL := hide fun W => low_yes (nmB m) hnM (by omega) W
  have HR : Hid (∀ W, Calls Try.prog 49 #[.agg (wn m), .int .i64 (8 * ((szB m : Int) - 3))] W fun e w' => e = .returned (.agg (wn (nmB m))) ∧ Below W.heap.size W w') := by
    intro W
    unfold nmB
    by_cases h3 : szB m < 3
    · rw [if_pos h3]
      exact right_neg m (8 * ((szB m : Int) - 3)) (8 * (3 - szB m)) (by omega) (by unfold sh; rw [if_neg (by omega), if_neg (by omega)]; omega) (by omega) W
    · rw [if_neg h3]
      exact right_pos m (8 * ((szB m : Int) - 3)) (8 * (szB m - 3)) hm (by unfold sh; rw [if_neg (by omega), if_neg (by omega)]; omega) (by omega) W
  have w1 : IntKind.i64.wrap ((bl m : Int) + 8) = (bl m : Int) + 8 := wrapI _ (by omega) (by omega)
  have w2 : IntKind.i64.wrap ((bl m : Int) + 8 - 1) = (bl m : Int) + 8 - 1 := wrapI _ (by omega) (by omega)
  have w3 : ((bl m : Int) + 8 - 1) / 8 = (szB m : Int) := by unfold szB; omega
  have w3t : Int.tdiv ((bl m : Int) + 8 - 1) 8 = (szB m : Int) := by rw [Int.tdiv_eq_ediv_of_nonneg (by omega)]; exact w3
  have w8 : wrap64 (szB m : Int) = (szB m : Int) := by unfold wrap64; omega
  have w4 : IntKind.i64.wrap ((szB m : Int) - 3) = (szB m : Int) - 3 := wrapI _ (by omega) (by omega)
  have w5 : IntKind.i64.wrap (8 * ((szB m : Int) - 3)) = 8 * ((szB m : Int) - 3) := wrapI _ (by omega) (by omega)
  have w6 : IntKind.i64.wrap ((szB m : Int) + 1) = ((szB m + 1 : Nat) : Int) := by rw [wrapI _ (by omega) (by omega)]; omega
  have w7 : ((nmB m : Nat) : Int) / 256 = ((nmB m / 256 : Nat) : Int) := by omega
  have hab := and_bit64 (nmB m) hn
  have o1 := or_size (szB m) (nmB m) (by omega) hn
  have o2 := or_size (szB m + 1) (nmB m / 256) (by omega) (by omega)
  have J0 := hide (Rs.start1 w 24 m)
  unfold cpt
  generalize hbl : (bl m : Int) = B at *
  generalize szB m + 1 = s1 at *
  generalize nmB m / 256 = n1 at *
  generalize szB m = s at *
  generalize nmB m = n at *
  clear hs hb hbl hnM hm
  by_cases hge : 8388608 ≤ n
  · rw [if_pos hge]
    rw [show decide (8388608 ≤ n) = true by simp [hge]] at hab
    obtain ⟨C, hC⟩ : ∃ C, C = s1 * 16777216 + n1 := ⟨_, rfl⟩
    rw [← hC] at o2 ⊢
    clear hC
    clear hge hn o1
    go_enter Try.func21, Try.ntmps21
    go_upto_region 1 with (refine wpList_boxA rfl _ rfl (wn m) rfl ?_)
    generalize w.alloc (.cells (wn m) 24) = W0 at *
    have r0 := hide (J0.out.at (g := w.heap.size) (t := 24) (n := m) (by simp))
    go_wp2_with (first | refine wpList_loadA AW rfl _ rfl w.heap.size rfl (wn m) (wn_size _) 24 r0.out ?_ | refine wpList_loadA AW rfl _ rfl w.heap.size rfl (wn m) (wn_size _) 24 r1.out ?_ | (go_at_call 48; refine (HB.out _).mono ?_; rintro e w1 ⟨rfl, be⟩; have J1 := hide (J0.out.next be); have r1 := hide (J1.out.at (g := w.heap.size) (t := 24) (n := m) (by simp)); clear be) | (go_at_call 49; refine (HR.out _).mono ?_; rintro e w2 ⟨rfl, be⟩; have J2 := hide (J1.out.next be); clear be) | (go_at_call 15; refine (HL.out _).mono ?_; rintro e w3 ⟨rfl, be⟩; have J3 := hide (J2.out.next be); clear be))
    go_ret
    exact ⟨rfl, J3.out.bel⟩
  · rw [if_neg hge]
    rw [show decide (8388608 ≤ n) = false by simp [hge]] at hab
    obtain ⟨C, hC⟩ : ∃ C, C = s * 16777216 + n := ⟨_, rfl⟩
    rw [← hC] at o1 ⊢
    clear hC
    clear hge hn o2
    go_enter Try.func21, Try.ntmps21
    go_upto_region 1 with (refine wpList_boxA rfl _ rfl (wn m) rfl ?_)
    generalize w.alloc (.cells (wn m) 24) = W0 at *
    have r0 := hide (J0.out.at (g := w.heap.size) (t := 24) (n := m) (by simp))
    go_wp2_with (first | refine wpList_loadA AW rfl _ rfl w.heap.size rfl (wn m) (wn_size _) 24 r0.out ?_ | refine wpList_loadA AW rfl _ rfl w.heap.size rfl (wn m) (wn_size _) 24 r1.out ?_ | (go_at_call 48; refine (HB.out _).mono ?_; rintro e w1 ⟨rfl, be⟩; have J1 := hide (J0.out.next be); have r1 := hide (J1.out.at (g := w.heap.size) (t := 24) (n := m) (by simp)); clear be) | (go_at_call 49; refine (HR.out _).mono ?_; rintro e w2 ⟨rfl, be⟩; have J2 := hide (J1.out.next be); clear be) | (go_at_call 15; refine (HL.out _).mono ?_; rintro e w3 ⟨rfl, be⟩; have J3 := hide (J2.out.next be); clear be))
    go_ret
    exact ⟨rfl, J3.out.bel⟩
theorem okB_lim : okB 545259519 = true := by decide +kernel
theorem work_lim : (M - 1 - Lm) / (Lm + 1) + 1 = 2 := by decide +kernel
theorem cpt_lim : cpt Lm = 545259519 := by decide +kernel
theorem awake_any5 (w : World) : Calls Try.prog 22 #[] w fun e w' => e = .returned (.bool true) ∧ Below w.heap.size w w' := by
  have HW : Hid (∀ W, Calls Try.prog 32 #[.int .u32 545259519] W fun e w' => e = .returned (.tuple #[.agg (wn 2), .int .i64 0]) ∧ Below W.heap.size W w') := fun W => by
    have := work_yes 545259519 (by decide) okB_lim W
    rw [Lm_eq, work_lim] at this
    exact this
  have HL := hide fun W => limit_any W
  have HC : Hid (∀ W, Calls Try.prog 21 #[.agg (wn Lm)] W fun e w' => e = .returned (.int .u32 545259519) ∧ Below W.heap.size W w') := fun W => by
    have := compact_any Lm Lm_M W
    rw [cpt_lim] at this
    exact this
  have E2 := hide fun W => eqW 2 2 (by decide) (by decide) W
  rw [show decide (2 = 2) = true by decide] at E2
  have B2 : Hid (∀ W, (Instr.build 24 #[(0, .int .u64 2)]).run Try.prog W = .ok (.agg (wn 2)) W) := fun W => run_buildW 2 (by decide) W
  generalize Lm = L at *
  go_enter Try.func22, Try.ntmps22
  go_upto_region 2 with (first | (go_at_call 32; refine (HW.out _).mono ?_; rintro e w1 ⟨rfl, be⟩; have K1 := hide (below_next be (below_allocZ w1 (.cells (wn 2) 24))); clear be) | refine wpList_allocA AW rfl rfl ?_ | refine wpList_store_newA AW rfl _ _ rfl _ rfl (wn 2) (wn_size _) (wn_one _) rfl rfl ?_)
  have r1 := hide (heap_alloc_last w1 (.cells (wn 2) 24))
  generalize w1.alloc (.cells (wn 2) 24) = W1 at *
  generalize w1.heap.size = g1 at *
  go_wp2_with (first | refine wpList_loadW AW rfl _ rfl g1 rfl (wn 2) (wn_size _) 24 r1.out ?_ | refine wpList_build1 rfl _ rfl _ (wn 2) B2.out rfl ?_ | refine wpList_eql 24 _ _ _ rfl (wn 2) (wn 2) rfl rfl rfl eqgW true E2.out ?_ | (go_at_call 26; refine (HL.out _).mono ?_; rintro e w2 ⟨rfl, be⟩; have K2 := hide (below_next K1.out be); clear be) | (go_at_call 21; refine (HC.out _).mono ?_; rintro e w3 ⟨rfl, be⟩; have K3 := hide (below_next K2.out be); clear be))
  go_ret
  exact ⟨rfl, K3.out⟩
end
end Go.Proofs.Ytmfpnlnhebjelaa
