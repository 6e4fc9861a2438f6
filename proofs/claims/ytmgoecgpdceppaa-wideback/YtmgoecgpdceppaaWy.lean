/- The document's Left by 256 and more. -/
import Derived.Test.YtmgoecgpdceppaaWx
import Derived.Test.YtmgoecgpdceppaaWu
namespace Go.Proofs.Ytmgoecgpdceppaa
open Go.RowKit
open Go.Deep
def bdR (x : Array (Nat × Value)) : Sem Value := Instr.build 23 x
theorem bdR_eq (x : Array (Nat × Value)) : Instr.build 23 x = bdR x := rfl
section
attribute [local go_sem ↓] ldR_eq svR_eq bdR_eq
set_option maxRecDepth 10000
set_option maxHeartbeats 2000000
theorem rleft_high (m n : Nat) (hm : m < M) (hn : 256 ≤ n) (w : World) : Calls Try.prog 30 #[.agg (wn m), .int .i64 (n : Int)] w fun e w' => e = .returned (.tuple #[.agg (wn 0), .bool (!decide (m = 0))]) ∧ Below w.heap.size w w' := by
  have J0 := hide (Bd.start w 23 m)
  have HE := fun W => eqR m 0 hm M_pos W
  have hB : ∀ W, (bdR #[]).run Try.prog W = .ok (.agg (wn 0)) W := AR.build
  have h1 : (256 : Int) ≤ n := by omega
  clear hm hn
  generalize decide (m = 0) = v at *
  have eg : ∀ x y W, _ := fun x y W => run_eqGuard_agg (P := Try.prog) W .neq 23 x y (wn m) (wn 0) eqgR
  go_enter Try.func30, Try.ntmps30
  go_upto_region 2 with (first | refine wpList_boxA rfl _ rfl (wn m) rfl ?_ | refine wpList_allocA AR rfl rfl ?_)
  generalize (w.alloc (.cells (wn m) 23)).alloc (.cells (wn 0) 23) = W0 at *
  have l1 : (ldR (.pointer (some ⟨w.heap.size, 0, none⟩))).run Try.prog W0.drew = .ok (.agg (wn m)) W0.drew := ldR_row (W := W0.drew) J0.out.a.heap
  have s1 := svR_row (w := W0.drew) J0.out.r 0
  have l4 := ldR_row (W := W0.drew.setRow (w.heap.size + 1) (wn 0)) ((setRow_other _ _ _ _ (by omega)).trans (show W0.drew.heap[w.heap.size]? = _ from J0.out.a.heap))
  have B0 := hide (J0.out.bel.drew)
  go_region
  go_wp2
  exact bodyPost_ret (v := .tuple #[.agg (wn 0), .bool !v]) (resA2 AR Try.results30 _ _ (w.heap.size + 1) 23 (wn 0) (wn_size _) rfl (setRow_heap _ _ _ _ _ _ (show W0.drew.heap[w.heap.size + 1]? = _ from J0.out.r)) _ (by rfl)) rfl ⟨rfl, below_setRow B0.out (by omega) _⟩
end
theorem sh_pos (n : Nat) : sh (n : Int) = ((min n 256 : Nat) : Int) := by
  unfold sh
  rw [if_neg (by omega)]
  split <;> omega
theorem high_mod (m : Nat) : m * 2 ^ 256 % M = 0 := by rw [← M_pow, Nat.mul_mod_left]
theorem pack_pos (m n : Nat) (hm : m < M) (hn : n ≤ 9223372036854775807) : ∃ (X Y : Nat) (L : Bool), X < M ∧ Y < M ∧
    (∀ W, Calls Try.prog 28 #[.agg (wn m), .int .i64 (n : Int)] W fun e w' => e = .returned (.tuple #[.agg (wn X), .bool L]) ∧ Below W.heap.size W w') ∧
    (∀ W, Calls Try.prog 29 #[.agg (wn m), .int .i64 (n : Int)] W fun e w' => e = .returned (.agg (wn Y)) ∧ Below W.heap.size W w') ∧
    (∀ W, Calls Try.prog 30 #[.agg (wn m), .int .i64 (n : Int)] W fun e w' => e = .returned (.tuple #[.agg (wn X), .bool L]) ∧ Below W.heap.size W w') ∧
    (∀ W, Calls Try.prog 31 #[.agg (wn m), .int .i64 (n : Int)] W fun e w' => e = .returned (.agg (wn Y)) ∧ Below W.heap.size W w') := by
  have hk := sh_pos n
  refine ⟨m * 2 ^ (min n 256) % M, m / 2 ^ n, decide (M ≤ m * 2 ^ (min n 256)), Nat.mod_lt _ M_pos, Nat.lt_of_le_of_lt (Nat.div_le_self _ _) hm, fun W => ?_, fun W => ?_, fun W => ?_, fun W => rright_any m n hm hn W⟩
  · rw [wn_mod]
    exact left_pos m n _ hm hk (by omega) W
  · have h := right_pos m n _ hm hk (by omega) W
    rcases Nat.lt_or_ge n 256 with h' | h'
    · rw [show min n 256 = n by omega] at h
      exact h
    · rw [show min n 256 = 256 by omega, ← M_pow, Nat.div_eq_of_lt hm] at h
      have e : m / 2 ^ n = 0 := Nat.div_eq_of_lt (Nat.lt_of_lt_of_le hm (by rw [M_pow]; exact Nat.pow_le_pow_right (by decide) h'))
      rw [e]
      exact h
  · rcases Nat.lt_or_ge n 256 with h' | h'
    · rw [show min n 256 = n by omega, wn_mod]
      exact rleft_low m n hm h' W
    · have h := rleft_high m n hm h' W
      rw [show min n 256 = 256 by omega, high_mod]
      have e : decide (M ≤ m * 2 ^ 256) = !decide (m = 0) := by
        rw [← M_pow]
        rcases Nat.eq_zero_or_pos m with h0 | h0
        · subst h0
          simp
          have := M_pos
          omega
        · have := Nat.mul_le_mul_right M h0
          have h1 : M ≤ m * M := by omega
          have h2 : ¬ m = 0 := by omega
          simp [h1, h2]
      rw [e]
      exact h
theorem pack_neg (m : Nat) (n : Int) (k : Nat) (hm : m < M) (hn : n < 0) (hk : (n ≤ -256 ∧ k = 256) ∨ (-256 < n ∧ (k : Int) = -n)) : ∃ (X Y : Nat) (L : Bool), X < M ∧ Y < M ∧
    (∀ W, Calls Try.prog 28 #[.agg (wn m), .int .i64 n] W fun e w' => e = .returned (.tuple #[.agg (wn X), .bool false]) ∧ Below W.heap.size W w') ∧
    (∀ W, Calls Try.prog 29 #[.agg (wn m), .int .i64 n] W fun e w' => e = .returned (.agg (wn Y)) ∧ Below W.heap.size W w') ∧
    (∀ W, Calls Try.prog 30 #[.agg (wn m), .int .i64 (k : Int)] W fun e w' => e = .returned (.tuple #[.agg (wn Y), .bool L]) ∧ Below W.heap.size W w') ∧
    (∀ W, Calls Try.prog 31 #[.agg (wn m), .int .i64 (k : Int)] W fun e w' => e = .returned (.agg (wn X)) ∧ Below W.heap.size W w') := by
  have hs : -(sh n) = k := by
    unfold sh
    split
    · omega
    · rw [if_neg (by omega)]
      omega
  have hk2 : k ≤ 256 := by omega
  refine ⟨m / 2 ^ k, m * 2 ^ k % M, decide (M ≤ m * 2 ^ k), Nat.lt_of_le_of_lt (Nat.div_le_self _ _) hm, Nat.mod_lt _ M_pos, fun W => left_neg m n k hm hn hs hk2 W, fun W => ?_, fun W => ?_, fun W => rright_any m k hm (by omega) W⟩
  · rw [wn_mod]
    exact right_neg m n k hn hs hk2 W
  · rcases Nat.lt_or_ge k 256 with h' | h'
    · rw [wn_mod]
      exact rleft_low m k hm h' W
    · have h := rleft_high m k hm h' W
      have e : k = 256 := by omega
      subst e
      rw [high_mod]
      have e : decide (M ≤ m * 2 ^ 256) = !decide (m = 0) := by
        rw [← M_pow]
        rcases Nat.eq_zero_or_pos m with h0 | h0
        · subst h0
          simp
          have := M_pos
          omega
        · have := Nat.mul_le_mul_right M h0
          have h1 : M ≤ m * M := by omega
          have h2 : ¬ m = 0 := by omega
          simp [h1, h2]
      rw [e]
      exact h
end Go.Proofs.Ytmgoecgpdceppaa
