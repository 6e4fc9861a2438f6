/- The marked places in order: the mathematics of MerkleShows. -/
import Derived.Test.YthlaibkdcebekaaDoorSa
namespace Go.Proofs.YthlaibkdcebekaaDoor
theorem mkd_eq (ms : List Bool) : ∀ k p, mkd ms k p = ((List.range (2 ^ k)).map (p * 2 ^ k + ·)).filter (fun i => ms.getD i false)
  | 0, p => by
    simp only [mkd, Nat.pow_zero, Nat.mul_one, List.range_one, List.map_cons, List.map_nil, Nat.add_zero, List.filter_cons, List.filter_nil]
  | k + 1, p => by
    rw [mkd, mkd_eq ms k, mkd_eq ms k, ← List.filter_append]
    congr 1
    rw [Nat.pow_succ, Nat.mul_two, List.range_add, List.map_append, List.map_map]
    congr 1
    · apply List.map_congr_left
      intro i _
      simp only [Nat.mul_add]
      rw [Nat.mul_comm 2 p, Nat.mul_assoc, Nat.two_mul, Nat.mul_add]
    · apply List.map_congr_left
      intro i _
      simp only [Function.comp, Nat.add_mul, Nat.mul_add, Nat.one_mul]
      rw [Nat.mul_comm 2 p, Nat.mul_assoc, Nat.two_mul, Nat.mul_add]
      omega
/-- The marked places. -/
def mkL (ms : List Bool) : List Nat := (List.range ms.length).filter (fun i => ms.getD i false)
theorem mkd_root (ms : List Bool) (k : Nat) (h : ms.length ≤ 2 ^ k) : mkd ms k 0 = mkL ms := by
  rw [mkd_eq]
  unfold mkL
  obtain ⟨d, hd⟩ : ∃ d, 2 ^ k = ms.length + d := ⟨2 ^ k - ms.length, by omega⟩
  rw [hd, List.range_add]
  simp only [Nat.zero_mul, Nat.zero_add, List.map_id', List.filter_append]
  have e : ((List.range d).map (ms.length + ·)).filter (fun i => ms.getD i false) = [] := by
    rw [List.filter_eq_nil_iff]
    intro i hi
    obtain ⟨j, _, rfl⟩ := List.mem_map.1 hi
    rw [List.getD_eq_getElem?_getD, List.getElem?_eq_none (by omega)]
    simp
  rw [e, List.append_nil]
/-- Those below i. -/
def mkU (ms : List Bool) (i : Nat) : List Nat := (List.range i).filter (fun j => ms.getD j false)
theorem mkU_snoc (ms : List Bool) (i : Nat) : mkU ms (i + 1) = if ms.getD i false then mkU ms i ++ [i] else mkU ms i := by
  unfold mkU
  rw [List.range_succ, List.filter_append]
  by_cases h : ms.getD i false = true
  · rw [if_pos h, List.filter_cons, List.filter_nil, if_pos h]
  · rw [if_neg h, List.filter_cons, List.filter_nil, if_neg h, List.append_nil]
theorem mkU_pre (ms : List Bool) (i : Nat) (hi : i ≤ ms.length) : ∃ r, mkL ms = mkU ms i ++ r := by
  obtain ⟨d, hd⟩ : ∃ d, ms.length = i + d := ⟨ms.length - i, by omega⟩
  unfold mkL mkU
  rw [hd, List.range_add, List.filter_append]
  exact ⟨_, rfl⟩
/-- A marked place is the next one that is told. -/
theorem mkU_at (ms : List Bool) (i : Nat) (hi : i < ms.length) (h : ms.getD i false = true) : (mkL ms)[(mkU ms i).length]? = some i := by
  obtain ⟨r, hr⟩ := mkU_pre ms (i + 1) hi
  rw [hr, mkU_snoc, if_pos h]
  simp
end Go.Proofs.YthlaibkdcebekaaDoor
