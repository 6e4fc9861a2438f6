/- A list whose last ones are told again has the same root, and is mutated: the mathematics of MerkleShows. -/
import Derived.Test.YthlaibkdcebekaaDoorSa
import Derived.Test.YthlaibkdcebekaaDoorMp
namespace Go.Proofs.YthlaibkdcebekaaDoor
theorem ia_left (A B : List (List UInt8)) (i : Nat) (h : i < A.length) : ia (A ++ B) i = ia A i := by
  simp [ia, List.getElem?_append_left h]
theorem ia_right (A B : List (List UInt8)) (i : Nat) : ia (A ++ B) (A.length + i) = ia B i := by
  simp [ia, List.getElem?_append_right]
theorem nxt_at (M : List (List UInt8)) (i : Nat) (h : i < (nxt M).length) : (nxt M)[i] = pr (ia M (2 * i)) (ia M (if 2 * i + 1 < M.length then 2 * i + 1 else 2 * i)) := by
  simp only [nxt, nxK, List.getElem_map, List.getElem_range, nx, mt]
  rw [if_pos (by omega : 2 * i % 2 = 0)]
theorem nxt_app (A B : List (List UInt8)) (h : A.length % 2 = 0) : nxt (A ++ B) = nxt A ++ nxt B := by
  apply List.ext_getElem
  · rw [List.length_append, nxt_len, nxt_len, nxt_len, List.length_append]
    omega
  · intro i h1 h2
    rw [nxt_at _ i h1]
    by_cases h3 : i < (nxt A).length
    · have h4 := h3
      rw [nxt_len] at h4
      rw [List.getElem_append_left h3, nxt_at A i h3, if_pos (by rw [List.length_append]; omega), if_pos (by omega), ia_left _ _ _ (by omega), ia_left _ _ _ (by omega)]
    · have h4 := h3
      rw [nxt_len] at h4
      rw [List.getElem_append_right (by omega), nxt_at, List.length_append, nxt_len]
      have e : 2 * i = A.length + 2 * (i - (A.length + 1) / 2) := by omega
      by_cases h5 : 2 * i + 1 < A.length + B.length
      · rw [if_pos h5, if_pos (by omega)]
        conv => lhs; rw [e, Nat.add_assoc, ia_right, ia_right]
      · rw [if_neg h5, if_neg (by omega)]
        conv => lhs; rw [e, ia_right]
theorem nxt_two (b : List UInt8) : nxt [b, b] = nxt [b] := by
  have e1 : (List.length [b, b] + 1) / 2 = 1 := by simp
  have e2 : (List.length [b] + 1) / 2 = 1 := by simp
  unfold nxt nxK
  rw [e1, e2]
  simp [List.range_succ, nx, mt, ia]
theorem lv_app (A B : List (List UInt8)) : ∀ k, 2 ^ k ∣ A.length → lv (A ++ B) k = lv A k ++ lv B k ∧ (lv A k).length = A.length / 2 ^ k
  | 0, _ => ⟨rfl, by simp [lv]⟩
  | k + 1, h => by
    obtain ⟨c, hc0⟩ := h
    have hc := hc0
    rw [Nat.pow_succ, Nat.mul_assoc] at hc
    obtain ⟨h1, h2⟩ := lv_app A B k ⟨2 * c, hc⟩
    have h3 : (lv A k).length = 2 * c := by rw [h2, hc, Nat.mul_div_cancel_left _ (Nat.two_pow_pos k)]
    refine ⟨by rw [lv, h1, nxt_app _ _ (by omega)]; rfl, ?_⟩
    rw [lv, nxt_len, h3, hc0, Nat.mul_div_cancel_left _ (Nat.two_pow_pos (k + 1))]
    omega
theorem od_all : ∀ n : Fin 301, 0 < n.val → odN n.val = 0 ∨ (odN n.val = 2 ^ tzN n.val ∧ 2 ^ tzN n.val ∣ n.val ∧ n.val / 2 ^ tzN n.val % 2 = 1 ∧ dp (n.val + odN n.val) = dp n.val ∧ tzN n.val + 1 ≤ dp n.val) := by decide +kernel
theorem muK_up (L : List (List UInt8)) (j : Nat) (h : twb (lv L j) = true) : ∀ k, j + 1 ≤ k → muK L k = true
  | 0, h1 => by omega
  | k + 1, h1 => by
    rw [muK]
    rcases Nat.lt_or_ge j k with h2 | h2
    · rw [muK_up L j h k h2, Bool.true_or]
    · rw [show k = j by omega, h, Bool.or_true]
theorem lv_same (L M : List (List UInt8)) (j : Nat) (h : lv L j = lv M j) : ∀ k, j ≤ k → lv L k = lv M k
  | 0, h1 => by rw [show j = 0 by omega] at h; exact h
  | k + 1, h1 => by
    rcases Nat.lt_or_ge j (k + 1) with h2 | h2
    · rw [lv, lv, lv_same L M j h k (by omega)]
    · rw [show k + 1 = j by omega, h]
theorem one_of8 {l : List (List UInt8)} (h : l.length = 1) : ∃ b, l = [b] := by
  match l, h with
  | [b], _ => exact ⟨b, rfl⟩
/-- The root of a list whose last ones are told again. -/
theorem odd_root (L : List (List UInt8)) (h0 : 0 < L.length) (hn : L.length ≤ 300) : rtL (odL L) = rtL L ∧ ((odL L).length = L.length ∨ (muL (odL L) = true ∧ L.length < (odL L).length)) := by
  have hne : ¬ L = [] := fun e => by rw [e] at h0; simp at h0
  rcases od_all ⟨L.length, by omega⟩ h0 with h | ⟨h1, h2, h3, h4, h5⟩
  · simp only at h
    have e : odL L = L := by unfold odL; rw [h]; simp
    rw [e]
    exact ⟨rfl, .inl rfl⟩
  · simp only at h1 h2 h3 h4 h5
    generalize tzN L.length = j at *
    have hp := Nat.two_pow_pos j
    have hle : 2 ^ j ≤ L.length := Nat.le_of_dvd h0 h2
    have hol : (odL L).length = L.length + 2 ^ j := by
      unfold odL
      rw [List.length_append, List.length_drop, h1]
      omega
    have hB : (L.drop (L.length - 2 ^ j)).length = 2 ^ j := by rw [List.length_drop]; omega
    have hA : (L.take (L.length - 2 ^ j)).length = L.length - 2 ^ j := by rw [List.length_take]; omega
    have hdA : 2 ^ j ∣ L.length - 2 ^ j := Nat.dvd_sub h2 (Nat.dvd_refl _)
    obtain ⟨a1, a2⟩ := lv_app (L.take (L.length - 2 ^ j)) (L.drop (L.length - 2 ^ j)) j (by rw [hA]; exact hdA)
    obtain ⟨b1, b2⟩ := lv_app L (L.drop (L.length - 2 ^ j)) j h2
    obtain ⟨c1, c2⟩ := lv_app (L.drop (L.length - 2 ^ j)) [] j (by rw [hB]; exact Nat.dvd_refl _)
    rw [hB, Nat.div_self hp] at c2
    obtain ⟨b, hb⟩ := one_of8 c2
    rw [List.take_append_drop, hb] at a1
    rw [hb] at b1
    have hX : (lv (L.take (L.length - 2 ^ j)) j).length % 2 = 0 := by
      have h6 : (lv L j).length = L.length / 2 ^ j := b2
      rw [a1, List.length_append, List.length_singleton] at h6
      omega
    have eo : lv (odL L) j = lv (L.take (L.length - 2 ^ j)) j ++ [b, b] := by
      unfold odL
      rw [h1, b1, a1, List.append_assoc]
      rfl
    have en : lv (odL L) (j + 1) = lv L (j + 1) := by
      rw [lv, lv, eo, a1, nxt_app _ _ hX, nxt_app _ _ hX, nxt_two]
    have hd : dp (odL L).length = dp L.length := by rw [hol, ← h1]; exact h4
    have hno : ¬ odL L = [] := fun e => by rw [e] at hol; simp at hol; omega
    refine ⟨?_, .inr ⟨?_, by omega⟩⟩
    · unfold rtL
      rw [if_neg hne, if_neg hno, hd, lv_same _ _ (j + 1) en _ h5]
    · unfold muL
      rw [hd]
      refine muK_up _ j ?_ _ h5
      rw [eo]
      refine twb_of _ ((lv (L.take (L.length - 2 ^ j)) j).length / 2) (by rw [List.length_append]; simp; omega) ?_
      rw [show 2 * ((lv (L.take (L.length - 2 ^ j)) j).length / 2) = (lv (L.take (L.length - 2 ^ j)) j).length + 0 by omega, ia_right, Nat.add_assoc, ia_right]
      rfl
end Go.Proofs.YthlaibkdcebekaaDoor
