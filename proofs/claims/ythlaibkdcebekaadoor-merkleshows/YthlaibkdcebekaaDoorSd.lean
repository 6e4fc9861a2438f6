/- A branch leads to the root; what is read of a part that was told: the mathematics of MerkleShows. -/
import Derived.Test.YthlaibkdcebekaaDoorSb
import Derived.Test.YthlaibkdcebekaaDoorSc
import Derived.Test.YthlaibkdcebekaaDoorMm
import Derived.Test.YthlaibkdcebekaaDoorNx
namespace Go.Proofs.YthlaibkdcebekaaDoor
theorem dp_pow : ∀ m n, n ≤ m → 0 < n → n ≤ 2 ^ dp n
  | 0, n, h, h0 => by omega
  | m + 1, n, h, h0 => by
    by_cases h2 : 2 ≤ n
    · rw [dp_step n h2, Nat.pow_succ]
      have := dp_pow m ((n + 1) / 2) (by omega) (by omega)
      omega
    · rw [show n = 1 by omega, dp_low 1 (by omega)]
      decide
theorem dp_nil (n : Nat) (h : 0 < n) (h0 : dp n = 0) : n = 1 := by
  by_cases h2 : 2 ≤ n
  · have := dp_step n h2
    omega
  · omega
theorem lv_dps (L : List (List UInt8)) (h0 : 0 < L.length) : ∀ k, k ≤ dp L.length → dp (lv L k).length + k = dp L.length
  | 0, _ => rfl
  | k + 1, h => by
    have ih := lv_dps L h0 k (by omega)
    have hp := lv_pos L h0 k
    have h2 : 2 ≤ (lv L k).length := by
      by_cases h1 : (lv L k).length = 1
      · rw [h1, dp_low 1 (by omega)] at ih
        omega
      · omega
    have := dp_step _ h2
    rw [lv, nxt_len]
    omega
theorem lv_top (L : List (List UInt8)) (h0 : 0 < L.length) : (lv L (dp L.length)).length = 1 :=
  dp_nil _ (lv_pos L h0 _) (by have := lv_dps L h0 (dp L.length) (Nat.le_refl _); omega)
theorem ck_way (L : List (List UInt8)) (p : Nat) (hp : p < L.length) (m : Nat) : ∀ k, k ≤ m → ckK (ia L p) p (brK L p m) k = ia (lv L k) (p / 2 ^ k)
  | 0, _ => by simp [ckK, lv]
  | k + 1, h => by
    have hw := way_lt L p hp k
    have hw1 := way_lt L p hp (k + 1)
    have hb : ia (brK L p m) k = brA L p k := by
      rw [ia_get _ _ (by rw [brK_len]; omega)]
      simp [brK]
    rw [ckK, ck_way L p hp m k (by omega), hb, lv_at L k _ hw1]
    unfold brA mt
    rw [Nat.pow_succ, ← Nat.div_div_eq_div_mul]
    generalize p / 2 ^ k = q at *
    by_cases h1 : q % 2 = 0
    · have e : 2 * (q / 2) = q := by omega
      rw [if_pos h1, if_pos h1, e]
    · have e : 2 * (q / 2) + 1 = q := by omega
      have e2 : 2 * (q / 2) = q - 1 := by omega
      rw [if_neg h1, if_neg h1, if_pos (by omega : q - 1 < _), e, if_pos hw, e2]
theorem ck_root (L : List (List UInt8)) (p : Nat) (hp : p < L.length) : ckK (ia L p) p (brL L p) (brL L p).length = rtL L := by
  have hne : ¬ L = [] := fun e => by rw [e] at hp; simp at hp
  have h1 := way_lt L p hp (dp L.length)
  rw [lv_top L (by omega)] at h1
  unfold brL rtL
  rw [brK_len, ck_way L p hp _ _ (Nat.le_refl _), if_neg hne, Nat.lt_one_iff.1 h1]
/-- What is read of a part that was told. -/
theorem rdT_tl (ms : List Bool) (L : List (List UInt8)) (hml : ms.length = L.length) (h0 : 0 < L.length) (hn : L.length ≤ 300) :
    rdT (L.length : Int) (tl ms L (dp L.length) 0).1 (tl ms L (dp L.length) 0).2 = some ⟨rtL L, [], [], mkL ms, (mkL ms).map (ia L)⟩ ∨ (rdT (L.length : Int) (tl ms L (dp L.length) 0).1 (tl ms L (dp L.length) 0).2 = none ∧ muL L = true) := by
  have hne : ¬ L = [] := fun e => by rw [e] at h0; simp at h0
  unfold rdT
  rw [if_pos (by omega), Int.toNat_natCast]
  have h := rd_tl ms L hml (dp L.length) 0 (by rw [lv_top L h0]; omega) [] []
  rw [List.append_nil, List.append_nil] at h
  rcases h with h | ⟨h, hm⟩
  · left
    rw [h]
    simp only [and_self, if_true, mkd_root ms _ (by rw [hml]; exact dp_pow _ _ (Nat.le_refl _) h0)]
    unfold rtL
    rw [if_neg hne]
  · right
    rw [h]
    exact ⟨rfl, hm⟩
end Go.Proofs.YthlaibkdcebekaaDoor
