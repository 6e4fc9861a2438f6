/- What the document's reader holds; what is read from a place in the bits and ids on. -/
import Derived.Test.YthlaibkdcebekaaDoorNx
namespace Go.Proofs.YthlaibkdcebekaaDoor
open Go.RowKit
open Go.Deep
/-- What the document's read comes to: the places b, i in bits and ids, whether something is wrong, the id, what was met. -/
def DO (bs : List Bool) (is : List (List UInt8)) (n k p : Nat) (wr : Bool) (b i : Nat) (ps : List Nat) (ms : List (List UInt8)) (wr' : Bool) (b' i' : Nat) (id : List UInt8) (ps' : List Nat) (ms' : List (List UInt8)) : Prop :=
  if wr = true then wr' = true else
    match rd n k p (bs.drop b) (is.drop i) with
    | none => wr' = true
    | some r => wr' = false ∧ id = r.id ∧ bs.drop b' = r.bits ∧ is.drop i' = r.ids ∧ ps' = ps ++ r.places ∧ ms' = ms ++ r.meant
section
variable {bs : List Bool} {is : List (List UInt8)} {n k p b i b1 i1 b2 i2 : Nat} {ps ps1 ps2 : List Nat} {ms ms1 ms2 : List (List UInt8)} {wr1 wr2 : Bool} {id1 id2 : List UInt8}
theorem DO.wrong : DO bs is n k p true b i ps ms true b1 i1 id1 ps1 ms1 := by simp [DO]
theorem DO.noBit (h : bs.length ≤ b) : DO bs is n k p false b i ps ms true b1 i1 id1 ps1 ms1 := by
  rw [DO, List.drop_eq_nil_of_le h]
  cases k <;> simp [rd]
theorem DO.noId (hb : b < bs.length) (hl : bs.getD b false = false ∨ k = 0) (h : is.length ≤ i) : DO bs is n k p false b i ps ms true b1 i1 id1 ps1 ms1 := by
  rw [DO, List.drop_eq_nil_of_le h, List.drop_eq_getElem_cons hb]
  rw [show bs.getD b false = bs[b] by simp [hb]] at hl
  rcases hl with h | rfl
  · rw [h]
    cases k <;> simp [rd]
  · simp [rd]
theorem DO.leaf (hb : b < bs.length) (hi : i < is.length) (hl : bs.getD b false = false ∨ k = 0) : DO bs is n k p false b i ps ms false (b + 1) (i + 1) (ia is i) (if bs.getD b false = true then ps ++ [p] else ps) (if bs.getD b false = true then ms ++ [ia is i] else ms) := by
  rw [DO, List.drop_eq_getElem_cons hb, List.drop_eq_getElem_cons hi, ia_get is i hi]
  rw [show bs.getD b false = bs[b] by simp [hb]] at *
  rcases hl with h | rfl
  · rw [h]
    cases k <;> simp [rd]
  · cases bs[b] <;> simp [rd]
theorem DO.one (hb : b < bs.length) (hl : bs.getD b false = true) (h1 : DO bs is n k (2 * p) false (b + 1) i ps ms wr1 b1 i1 id1 ps1 ms1) (hw : ¬ 2 * p + 1 < wdt n k) : DO bs is n (k + 1) p false b i ps ms wr1 b1 i1 (pr id1 id1) ps1 ms1 := by
  rw [DO, List.drop_eq_getElem_cons hb]
  rw [show bs.getD b false = bs[b] by simp [hb]] at hl
  rw [hl, rd_up, rdP]
  rw [DO] at h1
  simp only [Bool.false_eq_true, if_false] at h1 ⊢
  cases hr : rd n k (2 * p) (bs.drop (b + 1)) (is.drop i) with
  | none => rw [hr] at h1; exact h1
  | some r =>
    rw [hr] at h1
    simp only at h1 ⊢
    rw [if_neg hw]
    obtain ⟨h2, rfl, h3⟩ := h1
    exact ⟨h2, rfl, h3⟩
theorem DO.two (hb : b < bs.length) (hl : bs.getD b false = true) (h1 : DO bs is n k (2 * p) false (b + 1) i ps ms wr1 b1 i1 id1 ps1 ms1) (hw : 2 * p + 1 < wdt n k) (h2 : DO bs is n k (2 * p + 1) wr1 b1 i1 ps1 ms1 wr2 b2 i2 id2 ps2 ms2) : DO bs is n (k + 1) p false b i ps ms (wr2 || (id1 == id2)) b2 i2 (pr id1 id2) ps2 ms2 := by
  rw [DO, List.drop_eq_getElem_cons hb]
  rw [show bs.getD b false = bs[b] by simp [hb]] at hl
  rw [hl, rd_up, rdP]
  rw [DO] at h1 h2
  simp only [Bool.false_eq_true, if_false] at h1 ⊢
  cases hr : rd n k (2 * p) (bs.drop (b + 1)) (is.drop i) with
  | none =>
    rw [hr] at h1
    simp only at h1 ⊢
    rw [if_pos h1] at h2
    rw [h2]
    rfl
  | some r =>
    rw [hr] at h1
    simp only at h1 ⊢
    obtain ⟨e1, rfl, e2, e3, rfl, rfl⟩ := h1
    rw [if_pos hw, ← e2, ← e3]
    rw [e1, if_neg (by decide)] at h2
    cases hr2 : rd n k (2 * p + 1) (bs.drop b1) (is.drop i1) with
    | none =>
      rw [hr2] at h2
      simp only at h2 ⊢
      rw [h2]
      rfl
    | some r2 =>
      rw [hr2] at h2
      simp only at h2 ⊢
      obtain ⟨e4, rfl, e5, e6, rfl, rfl⟩ := h2
      by_cases he : r.id = r2.id
      · rw [if_pos he, he]
        simp
      · rw [if_neg he, e4]
        refine ⟨?_, rfl, e5, e6, by rw [List.append_assoc], by rw [List.append_assoc]⟩
        simpa using he
end
end Go.Proofs.YthlaibkdcebekaaDoor
