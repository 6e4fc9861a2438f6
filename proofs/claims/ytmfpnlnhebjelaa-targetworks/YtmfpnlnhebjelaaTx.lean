/- Work in one form; the contracts of Tries and Harder. -/
import Derived.Test.YtmfpnlnhebjelaaTw
import Derived.Test.YtmfpnlnhebjelaaTd
import Derived.Test.YtmfpnlnhebjelaaTc
import Derived.Test.YtmfpnlnhebjelaaTm
namespace Go.Proofs.Ytmfpnlnhebjelaa
open Go.RowKit
open Go.Deep
/-- The work that bits ask for; 0, if they may not be. -/
def wk (a : Nat) : Nat := if okB a then 2 ^ 256 / (xt a + 1) else 0
theorem share_eq (T : Nat) (hT : T ≤ Lm) : (M - 1 - T) / (T + 1) + 1 = 2 ^ 256 / (T + 1) := by
  have hM : T + 1 ≤ M := Nat.lt_of_le_of_lt hT Lm_M
  rw [← M_pow]
  generalize M = mm at *
  rw [Nat.div_eq_sub_div (a := mm) (Nat.succ_pos T) hM, Nat.sub_sub, Nat.add_comm 1 T]
theorem xt_tgt (a : Nat) (h : okB a = true) : xt a = tgt a := by unfold xt; rw [h]; rfl
theorem wk_lt (a : Nat) : wk a < M := by
  unfold wk
  split
  · rename_i h
    have h2 := (okB_iff a).1 h
    rw [← xt_tgt a h] at h2
    rw [← M_pow]
    exact Nat.div_lt_self M_pos (by omega)
  · exact M_pos
theorem work_any (a : Nat) (ha : a < 4294967296) (w : World) : Calls Try.prog 32 #[.int .u32 (a : Int)] w fun e w' => e = .returned (.tuple #[.agg (wn (wk a)), .int .i64 (if okB a then 0 else 50)]) ∧ Below w.heap.size w w' := by
  cases h : okB a
  · have := work_no a ha h w
    unfold wk
    rw [h]
    exact this
  · have := work_yes a ha h w
    rw [← xt_tgt a h, share_eq _ (xt_le a)] at this
    unfold wk
    rw [h]
    exact this
theorem workN_any (a : Nat) (ha : a < 4294967296) (w : World) : Calls Try.prog 33 #[.int .u32 (a : Int)] w fun e w' => e = .returned (.tuple #[.agg (bn (wk a)), .bool (okB a)]) ∧ Below w.heap.size w w' := by
  cases h : okB a
  · have := workN_no a ha h w
    unfold wk
    rw [h]
    exact this
  · have := workN_yes a ha h w
    unfold wk
    rw [h]
    exact this
/-- How many tries bits ask for. -/
def trs (a : Nat) : Nat := if wk a < 18446744073709551616 then wk a else 18446744073709551615
theorem harder_wk (a b : Nat) (h1 : okB a = true) (h2 : okB b = true) (h : xt a < xt b) : ¬ wk a < wk b := by
  unfold wk
  rw [h1, h2, if_pos rfl, if_pos rfl]
  exact Nat.not_lt.2 (Nat.div_le_div_left (by omega) (by omega))
section
set_option maxRecDepth 10000
set_option maxHeartbeats 2000000
theorem tries_any (a : Nat) (ha : a < 4294967296) (w : World) : Calls Try.prog 34 #[.int .u32 (a : Int)] w fun e w' => e = .returned (.tuple #[.int .u64 ((if okB a then trs a else 0 : Nat) : Int), .int .i64 (if okB a then 0 else 50)]) ∧ Below w.heap.size w w' := by
  have HW := hide fun W => work_any a ha W
  have hM := wk_lt a
  unfold trs
  generalize wk a = V at *
  generalize okB a = ok at *
  clear ha
  cases ok
  · simp only [Bool.false_eq_true, if_false] at HW ⊢
    go_enter Try.func34, Try.ntmps34
    go_wp2_with (first | (go_at_call 32; refine (HW.out _).mono ?_; rintro e w1 ⟨rfl, be⟩; have J1 := hide (below_next be (below_allocZ w1 (.cells (wn V) 24))); clear be) | refine wpList_allocA AW rfl rfl ?_ | refine wpList_store_newA AW rfl _ _ rfl _ rfl (wn V) (wn_size _) (wn_one _) rfl rfl ?_)
    go_ret2
    exact ⟨rfl, J1.out⟩
  · simp only [if_true] at HW ⊢
    obtain ⟨low, is, HLow, hlow⟩ : ∃ (low : Nat) (is : Bool), Hid (∀ W, Calls Try.prog 15 #[.agg (wn V)] W fun e w' => e = .returned (.tuple #[.int .u64 (low : Int), .bool is]) ∧ Below W.heap.size W w') ∧ (if V < 18446744073709551616 then V else 18446744073709551615) = (if is then low else 18446744073709551615) := by
      by_cases h : V < 18446744073709551616
      · exact ⟨V, true, fun W => low_yes V hM h W, by rw [if_pos h]; rfl⟩
      · exact ⟨0, false, fun W => low_no V hM h W, by rw [if_neg h]; rfl⟩
    rw [hlow]
    clear hlow hM
    go_enter Try.func34, Try.ntmps34
    go_upto_region 2 with (first | (go_at_call 32; refine (HW.out _).mono ?_; rintro e w1 ⟨rfl, be⟩; have J1 := hide (below_next be (below_allocZ w1 (.cells (wn V) 24))); clear be) | refine wpList_allocA AW rfl rfl ?_ | refine wpList_store_newA AW rfl _ _ rfl _ rfl (wn V) (wn_size _) (wn_one _) rfl rfl ?_)
    have r1 := hide (heap_alloc_last w1 (.cells (wn V) 24))
    generalize w1.alloc (.cells (wn V) 24) = W1 at *
    cases is
    all_goals
      go_wp2_with (first | refine wpList_loadA AW rfl _ rfl _ rfl (wn V) (wn_size _) 24 r1.out ?_ | (go_at_call 15; refine (HLow.out _).mono ?_; rintro e w2 ⟨rfl, be⟩; have J2 := hide (below_next J1.out be); clear be))
      go_ret2
      exact ⟨rfl, J2.out⟩
theorem harder_any (a b : Nat) (ha : a < 4294967296) (hb : b < 4294967296) (w : World) : Calls Try.prog 35 #[.int .u32 (a : Int), .int .u32 (b : Int)] w fun e w' => e = .returned (.bool (okB a && (okB b && decide (xt a < xt b)))) ∧ Below w.heap.size w w' := by
  have H1 := hide fun W => expand_any a ha W
  have H2 := hide fun W => expand_any b hb W
  have HC := hide fun W => compare_any (xt a) (xt b) (Nat.lt_of_le_of_lt (xt_le a) Lm_M) (Nat.lt_of_le_of_lt (xt_le b) Lm_M) W
  have hd : decide (xt a < xt b) = decide (cmpZ (xt a) (xt b) < 0) := by
    unfold cmpZ
    by_cases h : xt a < xt b
    · simp [h]
    · simp only [h, if_false]
      by_cases h2 : xt a = xt b <;> simp [h2]
  rw [hd]
  generalize cmpZ (xt a) (xt b) = z at *
  generalize okB a = oa at *
  generalize okB b = ob at *
  generalize xt a = T at *
  generalize xt b = U at *
  clear hd ha hb
  cases oa
  · rw [Bool.false_and]
    simp only [Bool.false_eq_true, if_false] at H1
    clear H2 HC
    go_enter Try.func35, Try.ntmps35
    go_wp2_with (first | (go_at_call 18; refine (H1.out _).mono ?_; rintro e w1 ⟨rfl, be⟩; have J1 := hide (below_next be (below_allocZ w1 (.cells (wn T) 24))); clear be) | refine wpList_allocA AW rfl rfl ?_ | refine wpList_store_newA AW rfl _ _ rfl _ rfl (wn T) (wn_size _) (wn_one _) rfl rfl ?_)
    go_ret
    exact ⟨rfl, J1.out⟩
  · rw [Bool.true_and]
    simp only [if_true] at H1
    cases ob
    · rw [Bool.false_and]
      simp only [Bool.false_eq_true, if_false] at H2
      go_enter Try.func35, Try.ntmps35
      go_upto_region 2 with (first | (go_at_call 18; refine (H1.out _).mono ?_; rintro e w1 ⟨rfl, be⟩; have J1 := hide ((Rc.nil w).next be |>.new 24 (wn T)); clear be) | refine wpList_allocA AW rfl rfl ?_ | refine wpList_store_newA AW rfl _ _ rfl _ rfl (wn T) (wn_size _) (wn_one _) rfl rfl ?_)
      try simp only [Act.put, List.setIfInBounds_toArray, List.set_cons_succ, List.set_cons_zero]
      generalize w1.alloc (.cells (wn T) 24) = W1 at *
      generalize w1.heap.size = g5 at *
      clear H1
      go_upto_region 5 with (first | (go_at_call 18; refine (H2.out _).mono ?_; rintro e w2 ⟨rfl, be⟩; have J2 := hide ((J1.out.next be).new 24 (wn U)); clear be) | refine wpList_allocA AW rfl rfl ?_ | refine wpList_store_newA AW rfl _ _ rfl _ rfl (wn U) (wn_size _) (wn_one _) rfl rfl ?_)
      try simp only [Act.put, List.setIfInBounds_toArray, List.set_cons_succ, List.set_cons_zero]
      generalize w2.alloc (.cells (wn U) 24) = W2 at *
      generalize w2.heap.size = g7 at *
      go_wp2
      go_ret
      exact ⟨rfl, J2.out.bel⟩
    · rw [Bool.true_and]
      simp only [if_true] at H2
      go_enter Try.func35, Try.ntmps35
      go_upto_region 2 with (first | (go_at_call 18; refine (H1.out _).mono ?_; rintro e w1 ⟨rfl, be⟩; have J1 := hide ((Rc.nil w).next be |>.new 24 (wn T)); clear be) | refine wpList_allocA AW rfl rfl ?_ | refine wpList_store_newA AW rfl _ _ rfl _ rfl (wn T) (wn_size _) (wn_one _) rfl rfl ?_)
      try simp only [Act.put, List.setIfInBounds_toArray, List.set_cons_succ, List.set_cons_zero]
      generalize w1.alloc (.cells (wn T) 24) = W1 at *
      generalize w1.heap.size = g5 at *
      clear H1
      go_upto_region 5 with (first | (go_at_call 18; refine (H2.out _).mono ?_; rintro e w2 ⟨rfl, be⟩; have J2 := hide ((J1.out.next be).new 24 (wn U)); clear be) | refine wpList_allocA AW rfl rfl ?_ | refine wpList_store_newA AW rfl _ _ rfl _ rfl (wn U) (wn_size _) (wn_one _) rfl rfl ?_)
      try simp only [Act.put, List.setIfInBounds_toArray, List.set_cons_succ, List.set_cons_zero]
      generalize w2.alloc (.cells (wn U) 24) = W2 at *
      generalize w2.heap.size = g7 at *
      have r5 := hide (J2.out.at (g := g5) (t := 24) (c := wn T) (by simp))
      have r7 := hide (J2.out.at (g := g7) (t := 24) (c := wn U) (by simp))
      go_wp2_with (first | refine wpList_loadW AW rfl _ rfl g5 rfl (wn T) (wn_size _) 24 r5.out ?_ | refine wpList_loadW AW rfl _ rfl g7 rfl (wn U) (wn_size _) 24 r7.out ?_ | (go_at_call 46; refine (HC.out _).mono ?_; rintro e w3 ⟨rfl, be⟩; have J3 := hide (J2.out.next be); clear be))
      go_ret
      exact ⟨rfl, J3.out.bel⟩
end
end Go.Proofs.Ytmfpnlnhebjelaa
