/- The contracts of wide.Left and Right. -/
import Derived.Test.YtmfpnlnhebjelaaWt
namespace Go.Proofs.Ytmfpnlnhebjelaa
open Go.RowKit
open Go.Deep
theorem lost_iff (m k : Nat) (hk : k ≤ 256) : (m * 2 ^ k % M / 2 ^ k = m) ↔ ¬ M ≤ m * 2 ^ k := by
  have hp := Nat.two_pow_pos k
  have e : M = 2 ^ (256 - k) * 2 ^ k := by rw [M_pow, ← Nat.pow_add, show 256 - k + k = 256 by omega]
  constructor
  · intro h h'
    have h1 := Nat.mod_lt (m * 2 ^ k) M_pos
    have h2 : m * 2 ^ k % M / 2 ^ k < 2 ^ (256 - k) := by
      rw [Nat.div_lt_iff_lt_mul hp, ← e]
      exact h1
    rw [h] at h2
    have h3 := Nat.mul_lt_mul_of_pos_right h2 hp
    rw [← e] at h3
    omega
  · intro h
    rw [Nat.mod_eq_of_lt (by omega), Nat.mul_div_cancel _ hp]
attribute [local go_sem ↓] ldW_eq svW_eq
section
set_option maxRecDepth 10000
set_option maxHeartbeats 2000000
theorem left_neg (m : Nat) (n : Int) (k : Nat) (hm : m < M) (h : n < 0) (hk : -(sh n) = k) (hk2 : k ≤ 256) (w : World) : Calls Try.prog 60 #[.agg (wn m), .int .i64 n] w fun e w' => e = .returned (.tuple #[.agg (wn (m / 2 ^ k)), .bool false]) ∧ Below w.heap.size w w' := by
  have J0 := hide (Bd.start w 24 m)
  have HS := hide fun W => short_any n W
  have HD := hide fun W => down_any m k hm hk2 W
  have hs : sh n < 0 := by unfold sh; split <;> omega
  have hw : IntKind.i64.wrap (-(sh n)) = k := by rw [hk]; exact wrapI _ (by omega) (by omega)
  clear hk h hm hk2
  generalize sh n = s at *
  generalize m / 2 ^ k = D at *
  go_enter Try.func60, Try.ntmps60
  go_upto_region 1 with (first | refine wpList_boxA rfl _ rfl (wn m) rfl ?_ | refine wpList_allocA AW rfl rfl ?_)
  generalize (w.alloc (.cells (wn m) 24)).alloc (.cells (wn 0) 24) = W0 at *
  have a0 := hide J0.out.a.heap
  go_wp2_with (first | (go_at_call 63; refine (HS.out _).mono ?_; rintro e w3 ⟨rfl, hw3⟩; subst w3) | refine wpList_loadA AW rfl _ rfl _ rfl (wn m) (wn_size _) 24 a0.out ?_ | (go_at_call 65; refine (HD.out _).mono ?_; rintro e w4 ⟨rfl, b4⟩; have J4 := hide (J0.out.next b4); have r4 := hide J4.out.r; clear b4) | refine wpList_storeA AW rfl _ _ rfl _ (wn D) (wn_size _) (wn_one _) rfl rfl (wn 0) (wn_size 0) 24 r4.out ?_)
  exact bodyPost_ret (v := .tuple #[.agg (wn D), .bool false]) (resA2 AW Try.results60 _ _ (w.heap.size + 1) 24 (wn D) (wn_size _) rfl (setRow_heap _ _ _ _ _ _ J4.out.r) _ (by rfl)) rfl ⟨rfl, below_setRow J4.out.bel (by omega) _⟩
theorem right_neg (m : Nat) (n : Int) (k : Nat) (h : n < 0) (hk : -(sh n) = k) (hk2 : k ≤ 256) (w : World) : Calls Try.prog 49 #[.agg (wn m), .int .i64 n] w fun e w' => e = .returned (.agg (wn (m * 2 ^ k))) ∧ Below w.heap.size w w' := by
  have J0 := hide (Bd.start w 24 m)
  have HS := hide fun W => short_any n W
  have HD := hide fun W => up_any m k hk2 W
  have hs : sh n < 0 := by unfold sh; split <;> omega
  have hw : IntKind.i64.wrap (-(sh n)) = k := by rw [hk]; exact wrapI _ (by omega) (by omega)
  clear hk h hk2
  generalize sh n = s at *
  generalize m * 2 ^ k = D at *
  go_enter Try.func49, Try.ntmps49
  go_upto_region 1 with (first | refine wpList_boxA rfl _ rfl (wn m) rfl ?_ | refine wpList_allocA AW rfl rfl ?_)
  generalize (w.alloc (.cells (wn m) 24)).alloc (.cells (wn 0) 24) = W0 at *
  have a0 := hide J0.out.a.heap
  go_wp2_with (first | (go_at_call 63; refine (HS.out _).mono ?_; rintro e w3 ⟨rfl, hw3⟩; subst w3) | refine wpList_loadA AW rfl _ rfl _ rfl (wn m) (wn_size _) 24 a0.out ?_ | (go_at_call 64; refine (HD.out _).mono ?_; rintro e w4 ⟨rfl, b4⟩; have J4 := hide (J0.out.next b4); have r4 := hide J4.out.r; clear b4) | refine wpList_storeA AW rfl _ _ rfl _ (wn D) (wn_size _) (wn_one _) rfl rfl (wn 0) (wn_size 0) 24 r4.out ?_)
  exact bodyPost_ret (v := .agg (wn D)) (resA AW Try.results49 _ _ (w.heap.size + 1) 24 (wn D) (wn_size _) rfl (setRow_heap _ _ _ _ _ _ J4.out.r)) rfl ⟨rfl, below_setRow J4.out.bel (by omega) _⟩
theorem right_pos (m : Nat) (n : Int) (k : Nat) (hm : m < M) (hk : sh n = k) (hk2 : k ≤ 256) (w : World) : Calls Try.prog 49 #[.agg (wn m), .int .i64 n] w fun e w' => e = .returned (.agg (wn (m / 2 ^ k))) ∧ Below w.heap.size w w' := by
  have J0 := hide (Bd.start w 24 m)
  have HS := hide fun W => short_any n W
  have HD := hide fun W => down_any m k hm hk2 W
  rw [hk] at HS
  have hs : ¬ (k : Int) < 0 := by omega
  clear hk hk2 hm
  generalize m / 2 ^ k = D at *
  go_enter Try.func49, Try.ntmps49
  go_upto_region 1 with (first | refine wpList_boxA rfl _ rfl (wn m) rfl ?_ | refine wpList_allocA AW rfl rfl ?_)
  generalize (w.alloc (.cells (wn m) 24)).alloc (.cells (wn 0) 24) = W0 at *
  have a0 := hide J0.out.a.heap
  go_wp2_with (first | (go_at_call 63; refine (HS.out _).mono ?_; rintro e w3 ⟨rfl, hw3⟩; subst w3) | refine wpList_loadA AW rfl _ rfl _ rfl (wn m) (wn_size _) 24 a0.out ?_ | (go_at_call 65; refine (HD.out _).mono ?_; rintro e w4 ⟨rfl, b4⟩; have J4 := hide (J0.out.next b4); have r4 := hide J4.out.r; clear b4) | refine wpList_storeA AW rfl _ _ rfl _ (wn D) (wn_size _) (wn_one _) rfl rfl (wn 0) (wn_size 0) 24 r4.out ?_)
  exact bodyPost_ret (v := .agg (wn D)) (resA AW Try.results49 _ _ (w.heap.size + 1) 24 (wn D) (wn_size _) rfl (setRow_heap _ _ _ _ _ _ J4.out.r)) rfl ⟨rfl, below_setRow J4.out.bel (by omega) _⟩
theorem left_pos (m : Nat) (n : Int) (k : Nat) (hm : m < M) (hk : sh n = k) (hk2 : k ≤ 256) (w : World) : Calls Try.prog 60 #[.agg (wn m), .int .i64 n] w fun e w' => e = .returned (.tuple #[.agg (wn (m * 2 ^ k)), .bool (decide (M ≤ m * 2 ^ k))]) ∧ Below w.heap.size w w' := by
  have J0 := hide (Bd.start w 24 m)
  have HS := hide fun W => short_any n W
  rw [hk] at HS
  have HU := hide fun W => up_any m k hk2 W
  have HD := hide fun W => down_any (m * 2 ^ k % M) k (Nat.mod_lt _ M_pos) hk2 W
  have HE := fun W => eqW (m * 2 ^ k % M / 2 ^ k) m (Nat.lt_of_le_of_lt (Nat.div_le_self _ _) (Nat.mod_lt _ M_pos)) hm W
  have hd : decide (M ≤ m * 2 ^ k) = !decide (m * 2 ^ k % M / 2 ^ k = m) := by
    have := lost_iff m k hk2
    by_cases h1 : M ≤ m * 2 ^ k
    · simp [h1, this]
    · simp [h1, this]
  have hs : ¬ (k : Int) < 0 := by omega
  rw [hd]
  rw [wn_mod] at HD
  clear hk hk2 hm hd
  generalize decide (m * 2 ^ k % M / 2 ^ k = m) = v at *
  generalize m * 2 ^ k % M / 2 ^ k = D at *
  generalize m * 2 ^ k = U at *
  have eg : ∀ x y W, _ := fun x y W => run_eqGuard_agg (P := Try.prog) W .neq 24 x y (wn D) (wn m) eqgW
  go_enter Try.func60, Try.ntmps60
  go_upto_region 1 with (first | refine wpList_boxA rfl _ rfl (wn m) rfl ?_ | refine wpList_allocA AW rfl rfl ?_)
  generalize (w.alloc (.cells (wn m) 24)).alloc (.cells (wn 0) 24) = W0 at *
  have a0 := hide J0.out.a.heap
  go_upto_region 5 with (first | (go_at_call 63; refine (HS.out _).mono ?_; rintro e w3 ⟨rfl, hw3⟩; subst w3) | refine wpList_loadA AW rfl _ rfl _ rfl (wn m) (wn_size _) 24 a0.out ?_ | (go_at_call 64; refine (HU.out _).mono ?_; rintro e w4 ⟨rfl, b4⟩; have J4 := hide (J0.out.next b4); clear b4) | refine wpList_allocA AW rfl rfl ?_ | refine wpList_store_newA AW rfl _ _ rfl _ rfl (wn U) (wn_size _) (wn_one _) rfl rfl ?_)
  have J5 := hide (J4.out.next ((Below.refl _ _).alloc (Nat.le_refl _) (.cells (wn U) 24)))
  have H6 := hide (heap_alloc_last w4 (.cells (wn U) 24))
  generalize w4.alloc (.cells (wn U) 24) = W5 at *
  generalize w4.heap.size = g at *
  clear J4 J0 a0 HS HU
  have l0 : (ldW (.pointer (some ⟨g, 0, none⟩))).run Try.prog W5.drew = .ok (.agg (wn U)) W5.drew := ldW_row (W := W5.drew) H6.out
  have l1 : (ldW (.pointer (some ⟨w.heap.size, 0, none⟩))).run Try.prog W5.drew = .ok (.agg (wn m)) W5.drew := ldW_row (W := W5.drew) J5.out.a.heap
  have B5 := hide ((Below.refl W5.heap.size W5).drew)
  go_region_with (go_at_call 65; refine (HD.out _).mono ?_; rintro e w6 ⟨rfl, be⟩; have J6 := hide (J5.out.next (B5.out.trans be)); have l2 := ldW_row ((be.block _ (lt_heap H6.out)).trans H6.out); have l3 := ldW_row (W := w6) J6.out.a.heap; have s1 := svW_row J6.out.r U; have l4 := ldW_row (W := w6.setRow (w.heap.size + 1) (wn U)) ((setRow_other _ _ _ _ (by omega)).trans J6.out.a.heap); clear be)
  all_goals (go_wp2; exact bodyPost_ret (v := .tuple #[.agg (wn U), .bool !v]) (resA2 AW Try.results60 _ _ (w.heap.size + 1) 24 (wn U) (wn_size _) rfl (setRow_heap _ _ _ _ _ _ J6.out.r) _ (by rfl)) rfl ⟨rfl, below_setRow J6.out.bel (by omega) _⟩)
end
end Go.Proofs.Ytmfpnlnhebjelaa
