/- Cuts of lists that are read. -/
import Derived.Test.YthlaibkdcebekaaDoorNt
namespace Go.Proofs.YthlaibkdcebekaaDoor
open Go.RowKit
open Go.Deep
/-- What is left of marks behind the first, in the form that a cut has. -/
theorem LB.tail2 {w : World} {g off n c : Nat} {b : Bool} {bs : List Bool} (h : LB w (.slice (some ⟨g, off, none⟩) n c) (b :: bs)) : LB w (.slice (if c = 1 then some ⟨g, off, none⟩ else some ⟨g, off + 1, none⟩) bs.length (c - 1)) bs := by
  by_cases hc : c = 1
  · rw [if_pos hc]
    obtain ⟨ao, cap, e, h1, h2⟩ := h
    cases e
    simp at h1
    exact ⟨_, _, rfl, by omega, fun i hi => by omega⟩
  · rw [if_neg hc]
    exact h.tail
theorem LH.tail2 {w : World} {g off n c : Nat} {x : List UInt8} {L : List (List UInt8)} (h : LH w (.slice (some ⟨g, off, none⟩) n c) (x :: L)) : LH w (.slice (if c = 1 then some ⟨g, off, none⟩ else some ⟨g, off + 32, none⟩) L.length (c - 1)) L := by
  by_cases hc : c = 1
  · rw [if_pos hc]
    obtain ⟨h0, ao, cap, e, h1, h2⟩ := h
    cases e
    simp at h1
    exact ⟨h0.tail, _, _, rfl, by omega, fun i hi => by omega⟩
  · rw [if_neg hc]
    exact h.tail
theorem Pq.setT {B W W1 : World} {gt gr : Nat} {vp vm vp1 vm1 : Value} (q : Pq B W gt gr vp vm W1 vp1 vm1) (hf : B.heap.size ≤ gt) (i : Nat) (u : Value) : Pq B W gt gr vp vm (W1.setCell ⟨gt, i, none⟩ u) vp1 vm1 :=
  ⟨q.on.setT i u, q.bel.setCell hf u, (Below.heap_setCell _ _ _ _ q.ne).trans q.res, q.new, q.far, q.ne, q.np, q.nm⟩
end Go.Proofs.YthlaibkdcebekaaDoor
