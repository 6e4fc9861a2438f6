/- The contract of tell. -/
import Derived.Test.YthlaibkdcebekaaDoorNx2
namespace Go.Proofs.YthlaibkdcebekaaDoor
open Go.RowKit
open Go.Deep
theorem tl_len (ms : List Bool) (L : List (List UInt8)) : ∀ k p, (tl ms L k p).1.length < 2 ^ (k + 1) ∧ (tl ms L k p).2.length < 2 ^ (k + 1)
  | 0, p => by simp [tl]
  | k + 1, p => by
    have h1 := tl_len ms L k (2 * p)
    have h2 := tl_len ms L k (2 * p + 1)
    have e : 2 ^ (k + 1 + 1) = 2 * 2 ^ (k + 1) := Nat.pow_succ'
    have hp : 0 < 2 ^ (k + 1) := Nat.pos_of_ne_zero (by simp)
    rw [tl]
    split
    · split
      · simp only [List.length_cons, List.length_append]
        omega
      · simp only [List.length_cons, List.length_append, List.length_nil]
        omega
    · simp only [List.length_cons, List.length_nil]
      omega
/-- The levels that a teller reads. -/
structure Tb (B : World) (v0 v1 : Value) (ms : List Bool) (L : List (List UInt8)) (N : Nat) : Prop where
  l0 : ∃ g c, v0 = .slice (some ⟨g, 0, none⟩) N c ∧ ∀ i, i < N → ∃ x, g < B.heap.size ∧ B.cell? ⟨g, i, none⟩ = some x ∧ LH B x (lv L i)
  l1 : ∃ g c, v1 = .slice (some ⟨g, 0, none⟩) N c ∧ ∀ i, i < N → ∃ x, g < B.heap.size ∧ B.cell? ⟨g, i, none⟩ = some x ∧ LB B x (mv ms i)
theorem tl_leaf (ms : List Bool) (L : List (List UInt8)) (K p : Nat) (h : mn ms K p = false ∨ K = 0) : tl ms L K p = ([mn ms K p], [ia (lv L K) p]) := by
  rcases K with _ | k
  · rfl
  · rw [tl]
    rcases h with h | h
    · rw [h]
      rfl
    · omega
theorem tl_inner (ms : List Bool) (L : List (List UInt8)) (k p : Nat) (h : mn ms (k + 1) p = true) : tl ms L (k + 1) p =
    (true :: ((tl ms L k (2 * p)).1 ++ if 2 * p + 1 < (lv L k).length then (tl ms L k (2 * p + 1)).1 else []), (tl ms L k (2 * p)).2 ++ if 2 * p + 1 < (lv L k).length then (tl ms L k (2 * p + 1)).2 else []) := by
  rw [tl, if_pos h]
section
variable {B W W' : World} {gt n : Nat} {v0 v1 vb vi v' : Value} {bs : List Bool} {is : List (List UInt8)}
theorem Ts.rowB (j : Ts B W gt v0 v1 n vb vi bs is) (h : Onto W W' vb v') : W'.rowIs gt 59 5 (tc v0 v1 n vb vi) :=
  World.rowIs.of_block j.row (h.grown.block _ (World.rowIs.lt j.row) (fun e => j.tb e.symm))
theorem Ts.rowI (j : Ts B W gt v0 v1 n vb vi bs is) (h : Onto W W' vi v') : W'.rowIs gt 59 5 (tc v0 v1 n vb vi) :=
  World.rowIs.of_block j.row (h.grown.block _ (World.rowIs.lt j.row) (fun e => j.ti e.symm))
end
/-- What tell does at a level and a place. -/
def Told (B : World) (v0 v1 : Value) (ms : List Bool) (L : List (List UInt8)) (gt n k p : Nat) : Prop :=
  ∀ (vb vi : Value) (bs : List Bool) (is : List (List UInt8)) (W : World), Ts B W gt v0 v1 n vb vi bs is → bs.length + 2 ^ (k + 1) ≤ 1000000 → is.length + 2 ^ (k + 1) ≤ 1000000 →
    Calls Tryd.prog 21 #[.pointer (some ⟨gt, 0, none⟩), .int .i64 (k : Int), .int .i64 (p : Int)] W fun e w' => (∃ r, e = .returned r) ∧ ∃ vb' vi', Ts B w' gt v0 v1 n vb' vi' (bs ++ (tl ms L k p).1) (is ++ (tl ms L k p).2)
end Go.Proofs.YthlaibkdcebekaaDoor
