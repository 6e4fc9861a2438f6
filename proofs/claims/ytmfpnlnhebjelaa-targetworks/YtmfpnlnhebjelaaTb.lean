/- The contracts of target.Limit and target.Expand. -/
import Derived.Test.YtmfpnlnhebjelaaTa
import Derived.Test.YtmfpnlnhebjelaaZr
import Derived.Test.YtmfpnlnhebjelaaWl
namespace Go.Proofs.Ytmfpnlnhebjelaa
open Go.RowKit
open Go.Deep
/-- The greatest target. -/
def Lm : Nat := 8388607 * 2 ^ 232
theorem Lm_eq : tgt 545259519 = Lm := by decide +kernel
theorem Lm_M : Lm < M := by decide +kernel
theorem Lm_ov : decide (M ≤ Lm) = false := by decide +kernel
/-- Bits that may be. -/
def okB (b : Nat) : Bool := decide (b / 8388608 % 2 = 0) && decide (0 < tgt b) && decide (tgt b ≤ Lm)
section
set_option maxRecDepth 10000
set_option maxHeartbeats 2000000
theorem limit_any (w : World) : Calls Try.prog 26 #[] w fun e w' => e = .returned (.agg (wn Lm)) ∧ Below w.heap.size w w' := by
  have HS : Hid (∀ W, Calls Try.prog 45 #[.int .u32 545259519] W fun e w' => e = .returned (.tuple #[.agg (wn Lm), .bool false]) ∧ Below W.heap.size W w') := fun W => by
    have := said_any 545259519 (by decide) W
    rw [Lm_eq, Lm_ov] at this
    exact this
  have J0 := hide (heap_alloc_last w (.cells (wn 0) 24))
  have B0 := hide ((Below.refl w.heap.size w).alloc (Nat.le_refl _) (.cells (wn 0) 24))
  generalize Lm = L at *
  go_enter Try.func26, Try.ntmps26
  go_upto_region 1 with (refine wpList_allocA AW rfl rfl ?_)
  generalize w.alloc (.cells (wn 0) 24) = W0 at *
  go_wp2_with (first | (go_at_call 45; refine (HS.out _).mono ?_; rintro e w1 ⟨rfl, b1⟩; have J1 := hide (((below_allocZ w1 (.cells (wn L) 24)).block _ (Nat.lt_of_lt_of_le (lt_heap J0.out) b1.size)).trans ((b1.block _ (lt_heap J0.out)).trans J0.out)); have B1 := hide (below_next (below_next B0.out b1) (below_allocZ w1 (.cells (wn L) 24))); have G1 := hide (heap_alloc_last w1 (.cells (wn L) 24)); clear b1) | refine wpList_allocA AW rfl rfl ?_ | refine wpList_store_newA AW rfl _ _ rfl _ rfl (wn L) (wn_size _) (wn_one _) rfl rfl ?_ | refine wpList_loadA AW rfl _ rfl _ rfl (wn L) (wn_size _) 24 G1.out ?_ | refine wpList_storeA AW rfl _ _ rfl _ (wn L) (wn_size _) (wn_one _) rfl rfl (wn 0) (wn_size 0) 24 J1.out ?_)
  exact bodyPost_ret (v := .agg (wn L)) (resA AW Try.results26 _ _ w.heap.size 24 (wn L) (wn_size _) rfl (setRow_heap _ _ _ _ _ _ J1.out)) rfl ⟨rfl, below_setRow B1.out (Nat.le_refl _) _⟩
/-- Expand, by what its four tests say. -/
theorem expand_core (b : Nat) (hb : b < 4294967296) (ov sg zb gt : Bool) (hov : decide (M ≤ tgt b) = ov) (hsg : decide (b / 8388608 % 2 = 1) = sg) (hzb : decide (tgt b % M = 0) = zb) (hgt : decide (0 < cmpZ (tgt b % M) Lm) = gt) (w : World) :
    Calls Try.prog 18 #[.int .u32 (b : Int)] w fun e w' => e = .returned (if ov || sg || zb || gt then .tuple #[.agg (wn 0), .int .i64 50] else .tuple #[.agg (wn (tgt b % M)), .int .i64 0]) ∧ Below w.heap.size w w' := by
  have HS := hide fun W => said_any b hb W
  rw [hov, ← wn_mod] at HS
  have hand := and_bit b hb
  rw [hsg] at hand
  have hT := Nat.mod_lt (tgt b) M_pos
  have HZ := hide fun W => zero_any _ hT W
  rw [hzb] at HZ
  have HL := hide fun W => limit_any W
  have HC := hide fun W => compare_any _ _ hT Lm_M W
  have J0 := hide (Rs.start1 w 24 0)
  generalize tgt b % M = T at *
  generalize Lm = L at *
  generalize cmpZ T L = z at *
  clear hov hsg hzb hT hb
  go_enter Try.func18, Try.ntmps18
  go_upto_region 1 with (refine wpList_allocA AW rfl rfl ?_)
  generalize w.alloc (.cells (wn 0) 24) = W0 at *
  go_upto_region 2 with (first | (go_at_call 45; refine (HS.out _).mono ?_; rintro e w1 ⟨rfl, be⟩; have J1 := hide ((J0.out.next be).new 24 T); clear be) | refine wpList_allocA AW rfl rfl ?_ | refine wpList_store_newA AW rfl _ _ rfl _ rfl (wn T) (wn_size _) (wn_one _) rfl rfl ?_)
  have LT := hide (lt_heap (J0.out.at (g := w.heap.size) (t := 24) (n := 0) (by simp)))
  generalize w1.alloc (.cells (wn T) 24) = W1 at *
  generalize w1.heap.size = g4 at *
  clear J0 HS
  have hc : ov = true ∨ (ov = false ∧ sg = true) ∨ (ov = false ∧ sg = false ∧ zb = true) ∨ (ov = false ∧ sg = false ∧ zb = false ∧ gt = true) ∨ (ov = false ∧ sg = false ∧ zb = false ∧ gt = false) := by
    cases ov <;> cases sg <;> cases zb <;> cases gt <;> simp
  have r2 := hide (J1.out.at (g := w.heap.size) (t := 24) (n := 0) (by simp))
  obtain ⟨I, hne, F, i0, h0, hJ, hcl⟩ := J1.out.cls
  rcases hc with rfl | ⟨rfl, rfl⟩ | ⟨rfl, rfl, rfl⟩ | ⟨rfl, rfl, rfl, rfl⟩ | ⟨rfl, rfl, rfl, rfl⟩
  all_goals
    refine wp_region_class_lit (by kernel_rfl) (by kernel_rfl) i0 h0 ?_
    repeat (first | ((go_big_quiet_want; refine quiet_loadA AW _ (by rfl) g4 (by rfl) (wn T) (wn_size _) 24 (Rs.of hJ (by simp)) ?_); go_big_quiet_on; simp only [Act.put, List.setIfInBounds_toArray, List.set_cons_succ, List.set_cons_zero]) | go_big_quiet_step (first | (go_at_call 38; exact class_of hcl.out (HZ.out _)) | (go_at_call 26; exact class_of hcl.out (HL.out _)) | (go_at_call 46; exact class_of hcl.out (HC.out _))))
    refine wpQuiet_nil ?_
    rintro _ ⟨iq, rfl⟩
    have J2 := hide (hJ.out iq)
    clear hJ hcl h0 HZ HL HC r2
    generalize F iq = W2 at *
    have r2 := hide (J2.out.at (g := w.heap.size) (t := 24) (n := 0) (by simp))
    have r4 := hide (J2.out.at (g := g4) (t := 24) (n := T) (by simp))
  iterate 4
    · go_wp2_with (first | refine wpList_buildA AW rfl rfl ?_ | refine wpList_storeA AW rfl _ _ rfl _ (wn 0) (wn_size _) (wn_one _) rfl rfl (wn 0) (wn_size 0) 24 r2.out ?_)
      exact bodyPost_ret (v := .tuple #[.agg (wn 0), .int .i64 50]) (resA2 AW Try.results18 _ _ w.heap.size 24 (wn 0) (wn_size _) rfl (setRow_heap _ _ _ _ _ _ r2.out) _ (by rfl)) rfl ⟨rfl, below_setRow J2.out.bel (Nat.le_refl _) _⟩
  · go_wp2_with (first | refine wpList_loadA AW rfl _ rfl g4 rfl (wn T) (wn_size _) 24 r4.out ?_ | refine wpList_storeA AW rfl _ _ rfl _ (wn T) (wn_size _) (wn_one _) rfl rfl (wn 0) (wn_size 0) 24 r2.out ?_)
    exact bodyPost_ret (v := .tuple #[.agg (wn T), .int .i64 0]) (resA2 AW Try.results18 _ _ w.heap.size 24 (wn T) (wn_size _) rfl (setRow_heap _ _ _ _ _ _ r2.out) _ (by rfl)) rfl ⟨rfl, below_setRow J2.out.bel (Nat.le_refl _) _⟩
end
theorem cmp_gt (m n : Nat) : (0 < cmpZ m n) = (n < m) := by
  apply propext
  unfold cmpZ
  split
  · simp; omega
  · split <;> simp <;> omega
theorem expand_yes (b : Nat) (hb : b < 4294967296) (h : okB b = true) (w : World) : Calls Try.prog 18 #[.int .u32 (b : Int)] w fun e w' => e = .returned (.tuple #[.agg (wn (tgt b)), .int .i64 0]) ∧ Below w.heap.size w w' := by
  unfold okB at h
  simp only [Bool.and_eq_true, decide_eq_true_eq] at h
  have hL := Lm_M
  have := expand_core b hb false false false false (by simp; omega) (by simp; omega) (by rw [Nat.mod_eq_of_lt (by omega)]; simp; omega) (by rw [Nat.mod_eq_of_lt (by omega)]; simp only [cmp_gt]; simp; omega) w
  rw [Nat.mod_eq_of_lt (by omega)] at this
  exact this
theorem expand_no (b : Nat) (hb : b < 4294967296) (h : okB b = false) (w : World) : Calls Try.prog 18 #[.int .u32 (b : Int)] w fun e w' => e = .returned (.tuple #[.agg (wn 0), .int .i64 50]) ∧ Below w.heap.size w w' := by
  have := expand_core b hb _ _ _ _ rfl rfl rfl rfl w
  rw [if_pos] at this
  · exact this
  · simp only [cmp_gt, Bool.or_eq_true, decide_eq_true_eq]
    unfold okB at h
    by_cases h1 : M ≤ tgt b
    · exact .inl (.inl (.inl h1))
    · rw [Nat.mod_eq_of_lt (show tgt b < M by omega)]
      by_cases h2 : b / 8388608 % 2 = 1
      · exact .inl (.inl (.inr h2))
      · by_cases h3 : tgt b = 0
        · exact .inl (.inr h3)
        · right
          rcases Nat.lt_or_ge Lm (tgt b) with h4 | h4
          · exact h4
          · rw [show decide (b / 8388608 % 2 = 0) = true by simp; omega, show decide (0 < tgt b) = true by simp; omega, show decide (tgt b ≤ Lm) = true by simp; omega] at h
            cases h
end Go.Proofs.Ytmfpnlnhebjelaa
