/- Trees in parts: what is told of a list and marks, and what is read; the mathematics. -/
import Derived.Test.YthlaibkdcebekaaDoorMi
namespace Go.Proofs.YthlaibkdcebekaaDoor
/-- The level above a level of marks. -/
def upM (l : List Bool) : List Bool := (List.range ((l.length + 1) / 2)).map fun i => l.getD (2 * i) false || l.getD (2 * i + 1) false
theorem upM_len (l : List Bool) : (upM l).length = (l.length + 1) / 2 := by simp [upM]
theorem upM_at (l : List Bool) (p : Nat) : (upM l).getD p false = (l.getD (2 * p) false || l.getD (2 * p + 1) false) := by
  by_cases h : p < (l.length + 1) / 2
  · simp [upM, List.getD_eq_getElem?_getD, h]
  · have h1 : l.getD (2 * p) false = false := by rw [List.getD_eq_getElem?_getD, List.getElem?_eq_none (by omega)]; rfl
    have h2 : l.getD (2 * p + 1) false = false := by rw [List.getD_eq_getElem?_getD, List.getElem?_eq_none (by omega)]; rfl
    rw [h1, h2, List.getD_eq_getElem?_getD, List.getElem?_eq_none (by rw [upM_len]; omega)]
    rfl
/-- The levels of marks. -/
def mv (ms : List Bool) : Nat → List Bool
  | 0 => ms
  | k + 1 => upM (mv ms k)
/-- Is something meant beneath a position? -/
def mn (ms : List Bool) (k p : Nat) : Bool := (List.range (2 ^ k)).any fun i => ms.getD (p * 2 ^ k + i) false
theorem mn_step (ms : List Bool) (k p : Nat) : mn ms (k + 1) p = (mn ms k (2 * p) || mn ms k (2 * p + 1)) := by
  unfold mn
  rw [Bool.eq_iff_iff, Bool.or_eq_true, List.any_eq_true, List.any_eq_true, List.any_eq_true]
  have e : p * 2 ^ (k + 1) = 2 * p * 2 ^ k := by rw [Nat.pow_succ', ← Nat.mul_assoc, Nat.mul_comm p 2]
  have e2 : (2 * p + 1) * 2 ^ k = 2 * p * 2 ^ k + 2 ^ k := by rw [Nat.add_mul, Nat.one_mul]
  have e3 : 2 ^ (k + 1) = 2 ^ k + 2 ^ k := by rw [Nat.pow_succ]; omega
  rw [e, e2, e3]
  constructor
  · rintro ⟨i, hi, h⟩
    rw [List.mem_range] at hi
    by_cases hl : i < 2 ^ k
    · exact .inl ⟨i, List.mem_range.2 hl, h⟩
    · refine .inr ⟨i - 2 ^ k, List.mem_range.2 (by omega), ?_⟩
      rw [show 2 * p * 2 ^ k + 2 ^ k + (i - 2 ^ k) = 2 * p * 2 ^ k + i by omega]
      exact h
  · rintro (⟨i, hi, h⟩ | ⟨i, hi, h⟩)
    · exact ⟨i, List.mem_range.2 (by have := List.mem_range.1 hi; omega), h⟩
    · refine ⟨2 ^ k + i, List.mem_range.2 (by have := List.mem_range.1 hi; omega), ?_⟩
      rw [← Nat.add_assoc]
      exact h
theorem mv_mn (ms : List Bool) : ∀ k p, (mv ms k).getD p false = mn ms k p
  | 0, p => by simp [mv, mn, List.range_succ]
  | k + 1, p => by rw [mv, upM_at, mv_mn ms k, mv_mn ms k, mn_step]
theorem mv_len (ms : List Bool) (L : List (List UInt8)) (h : ms.length = L.length) : ∀ k, (mv ms k).length = (lv L k).length
  | 0 => h
  | k + 1 => by rw [mv, upM_len, mv_len ms L h k, lv, nxt_len]
/-- What is told of a position, and of all beneath it. -/
def tl (ms : List Bool) (L : List (List UInt8)) : Nat → Nat → List Bool × List (List UInt8)
  | 0, p => ([mn ms 0 p], [ia (lv L 0) p])
  | k + 1, p =>
    if mn ms (k + 1) p then
      (true :: ((tl ms L k (2 * p)).1 ++ if 2 * p + 1 < (lv L k).length then (tl ms L k (2 * p + 1)).1 else []),
        (tl ms L k (2 * p)).2 ++ if 2 * p + 1 < (lv L k).length then (tl ms L k (2 * p + 1)).2 else [])
    else ([false], [ia (lv L (k + 1)) p])
/-- What a tree in parts reads as, from a position down: the id; what is left of its bits and ids; the meant places and ids. -/
structure Rd where
  id : List UInt8
  bits : List Bool
  ids : List (List UInt8)
  places : List Nat
  meant : List (List UInt8)
def rd (n : Nat) : Nat → Nat → List Bool → List (List UInt8) → Option Rd
  | _, _, [], _ => none
  | 0, _, _ :: _, [] => none
  | 0, p, b :: bs, x :: is => some ⟨x, bs, is, if b then [p] else [], if b then [x] else []⟩
  | _ + 1, _, false :: _, [] => none
  | _ + 1, _, false :: bs, x :: is => some ⟨x, bs, is, [], []⟩
  | k + 1, p, true :: bs, is =>
    match rd n k (2 * p) bs is with
    | none => none
    | some a =>
      if 2 * p + 1 < wdt n k then
        match rd n k (2 * p + 1) a.bits a.ids with
        | none => none
        | some b => if a.id = b.id then none else some ⟨pr a.id b.id, b.bits, b.ids, a.places ++ b.places, a.meant ++ b.meant⟩
      else some ⟨pr a.id a.id, a.bits, a.ids, a.places, a.meant⟩
end Go.Proofs.YthlaibkdcebekaaDoor
