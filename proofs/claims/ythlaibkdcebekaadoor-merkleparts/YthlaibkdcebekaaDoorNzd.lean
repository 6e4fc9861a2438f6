/- The contract of the document's read. -/
import Derived.Test.YthlaibkdcebekaaDoorNzb
import Derived.Test.YthlaibkdcebekaaDoorNzc
namespace Go.Proofs.YthlaibkdcebekaaDoor
open Go.RowKit
open Go.Deep
theorem dread_any {B : World} {n : Nat} {vb vi : Value} {bs : List Bool} {is : List (List UInt8)} (hB : LB B vb bs) (hI : LH B vi is) (hbs : bs.length < 4611686018427387904) (his : is.length < 4611686018427387904) (hn : n ≤ 65536) : ∀ k p, k ≤ 17 → (p + 1) * 2 ^ k ≤ 131072 → DR B n vb vi bs is k p
  | k, p, hk, hp => by
    intro vp vm b i ps ms wr W e hb hi h1 h2
    by_cases hw : wr = true ∨ (wr = false ∧ bs.length ≤ b)
    · exact dread_wrong hB hI e hb hi hw
    · have hwr : wr = false := by
        cases wr
        · rfl
        · exact absurd (.inl rfl) hw
      subst hwr
      have hlt : b < bs.length := by
        by_cases h : b < bs.length
        · exact h
        · exact absurd (.inr ⟨rfl, by omega⟩) hw
      by_cases hl : bs.getD b false = false ∨ k = 0
      · exact dread_leaf hB hI hbs his e hlt hi hl (Nat.le_of_add_right_le h1) (Nat.le_of_add_right_le h2)
      · have hbit : bs.getD b false = true := by
          cases hx : bs.getD b false
          · exact absurd (.inl hx) hl
          · rfl
        match k, hk, hp, hl, h1, h2 with
        | 0, _, _, hl, _, _ => exact absurd (.inr rfl) hl
        | k + 1, hk, hp, _, h1, h2 =>
          have e1 : (p + 1) * 2 ^ (k + 1) = (2 * p + 1) * 2 ^ k + 2 ^ k := by
            rw [Nat.pow_succ', ← Nat.mul_assoc, show (p + 1) * 2 = 2 * p + 1 + 1 by omega, Nat.add_mul, Nat.one_mul]
          have e2 : (2 * p + 1 + 1) * 2 ^ k = (2 * p + 1) * 2 ^ k + 2 ^ k := by rw [Nat.add_mul, Nat.one_mul]
          have hpw : 0 < 2 ^ k := Nat.pos_of_ne_zero (by simp)
          have hle : (2 * p + 1) ≤ (2 * p + 1) * 2 ^ k := Nat.le_mul_of_pos_right _ hpw
          exact dread_inner hB hI hbs his e hlt hi hbit hn (by omega) (by omega) h1 h2 (dread_any hB hI hbs his hn k (2 * p) (by omega) (by omega)) (dread_any hB hI hbs his hn k (2 * p + 1) (by omega) (by omega))
  termination_by k => k
end Go.Proofs.YthlaibkdcebekaaDoor
