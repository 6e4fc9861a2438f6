/- What a part tells is read back: the mathematics of MerkleShows. -/
import Derived.Test.YthlaibkdcebekaaDoorNa
namespace Go.Proofs.YthlaibkdcebekaaDoor
theorem wdt_step : ∀ k n, wdt n (k + 1) = (wdt n k + 1) / 2
  | 0, _ => rfl
  | k + 1, n => wdt_step k ((n + 1) / 2)
theorem wdt_lv (L : List (List UInt8)) : ∀ k, wdt L.length k = (lv L k).length
  | 0 => rfl
  | k + 1 => by rw [wdt_step, wdt_lv L k, lv, nxt_len]
/-- The marked places beneath a position. -/
def mkd (ms : List Bool) : Nat → Nat → List Nat
  | 0, p => if ms.getD p false then [p] else []
  | k + 1, p => mkd ms k (2 * p) ++ mkd ms k (2 * p + 1)
theorem mn_zero (ms : List Bool) (p : Nat) : mn ms 0 p = ms.getD p false := (mv_mn ms 0 p).symm
theorem mkd_nil (ms : List Bool) : ∀ k p, mn ms k p = false → mkd ms k p = []
  | 0, p, h => by
    rw [mn_zero] at h
    rw [mkd, h]
    rfl
  | k + 1, p, h => by
    rw [mn_step, Bool.or_eq_false_iff] at h
    rw [mkd, mkd_nil ms k _ h.1, mkd_nil ms k _ h.2]
    rfl
theorem mn_out (ms : List Bool) (L : List (List UInt8)) (h : ms.length = L.length) (k p : Nat) (hp : (lv L k).length ≤ p) : mn ms k p = false := by
  rw [← mv_mn, List.getD_eq_getElem?_getD, List.getElem?_eq_none (by rw [mv_len ms L h]; exact hp)]
  rfl
theorem lv_at (L : List (List UInt8)) (k p : Nat) (hp : p < (lv L (k + 1)).length) : ia (lv L (k + 1)) p = pr (ia (lv L k) (2 * p)) (ia (lv L k) (if 2 * p + 1 < (lv L k).length then 2 * p + 1 else 2 * p)) := by
  have h1 := hp
  rw [lv, nxt_len] at h1
  rw [ia_get _ _ hp]
  simp only [lv, nxt, nxK, List.getElem_map, List.getElem_range, nx, mt]
  rw [if_pos (by omega : 2 * p % 2 = 0)]
theorem twb_of (M : List (List UInt8)) (p : Nat) (h : 2 * p + 1 < M.length) (e : ia M (2 * p) = ia M (2 * p + 1)) : twb M = true := by
  unfold twb twK
  rw [List.any_eq_true]
  exact ⟨p, List.mem_range.2 (by omega), by rw [e]; exact beq_self_eq_true _⟩
theorem rd_tl (ms : List Bool) (L : List (List UInt8)) (hml : ms.length = L.length) : ∀ k p, p < (lv L k).length → ∀ bs is,
    rd L.length k p ((tl ms L k p).1 ++ bs) ((tl ms L k p).2 ++ is) = some ⟨ia (lv L k) p, bs, is, mkd ms k p, (mkd ms k p).map (ia L)⟩ ∨ (rd L.length k p ((tl ms L k p).1 ++ bs) ((tl ms L k p).2 ++ is) = none ∧ muK L k = true)
  | 0, p, hp, bs, is => by
    left
    simp only [tl, mn_zero, List.cons_append, List.nil_append, rd, mkd, lv]
    cases ms.getD p false <;> simp
  | k + 1, p, hp, bs, is => by
    have h1 := hp
    rw [lv, nxt_len] at h1
    by_cases hm : mn ms (k + 1) p = true
    · rw [tl, if_pos hm]
      simp only [List.cons_append, List.append_assoc, rd]
      rcases rd_tl ms L hml k (2 * p) (by omega) ((if 2 * p + 1 < (lv L k).length then (tl ms L k (2 * p + 1)).1 else []) ++ bs) ((if 2 * p + 1 < (lv L k).length then (tl ms L k (2 * p + 1)).2 else []) ++ is) with h | ⟨h, hmu⟩
      · rw [h]
        simp only [wdt_lv]
        by_cases h2 : 2 * p + 1 < (lv L k).length
        · simp only [if_pos h2]
          rcases rd_tl ms L hml k (2 * p + 1) h2 bs is with g | ⟨g, hmu⟩
          · rw [g]
            simp only
            by_cases he : ia (lv L k) (2 * p) = ia (lv L k) (2 * p + 1)
            · right
              rw [if_pos he, muK, twb_of _ p h2 he, Bool.or_true]
              exact ⟨rfl, rfl⟩
            · left
              rw [if_neg he, lv_at L k p hp, if_pos h2, mkd, List.map_append]
          · right
            rw [g, muK, hmu, Bool.true_or]
            exact ⟨rfl, rfl⟩
        · simp only [if_neg h2, List.nil_append]
          left
          rw [lv_at L k p hp, if_neg h2, mkd, mkd_nil ms k (2 * p + 1) (mn_out ms L hml k _ (by omega)), List.append_nil]
      · right
        rw [h, muK, hmu, Bool.true_or]
        exact ⟨rfl, rfl⟩
    · left
      have hm' : mn ms (k + 1) p = false := by simpa using hm
      rw [tl, if_neg hm, mkd_nil ms (k + 1) p hm']
      simp [rd]
end Go.Proofs.YthlaibkdcebekaaDoor
