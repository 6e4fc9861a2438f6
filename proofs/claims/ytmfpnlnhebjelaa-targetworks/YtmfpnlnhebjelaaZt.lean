/- Rows of any cells in a world, and classes of worlds that have them. -/
import Derived.Test.YtmfpnlnhebjelaaZr
namespace Go.Proofs.Ytmfpnlnhebjelaa
open Go.RowKit
open Go.Deep
/-- Rows of cells: place, type, cells. -/
structure Rc (w W : World) (l : List (Nat × TypeId × Array Value)) : Prop where
  row : ∀ p ∈ l, W.heap[p.1]? = some (.cells p.2.2 p.2.1 (0, 0))
  bel : Below w.heap.size w W
section
variable {w W W' : World} {l : List (Nat × TypeId × Array Value)} {g : Nat} {t : TypeId} {c : Array Value}
theorem Rc.at (j : Rc w W l) (h : (g, t, c) ∈ l) : W.heap[g]? = some (.cells c t (0, 0)) := j.row _ h
theorem Rc.next (j : Rc w W l) (h : Below W.heap.size W W') : Rc w W' l := ⟨fun p hp => (h.block _ (lt_heap (j.row p hp))).trans (j.row p hp), below_next j.bel h⟩
theorem Rc.drew (j : Rc w W l) : Rc w W.drew l := ⟨j.row, j.bel.drew⟩
theorem Rc.cons (j : Rc w W l) (h : W.heap[g]? = some (.cells c t (0, 0))) : Rc w W ((g, t, c) :: l) := by
  refine ⟨fun p hp => ?_, j.bel⟩
  rcases List.mem_cons.1 hp with rfl | h2
  · exact h
  · exact j.row p h2
theorem Rc.new (j : Rc w W l) (t : TypeId) (c : Array Value) : Rc w (W.alloc (.cells c t)) ((W.heap.size, t, c) :: l) := (j.next (below_allocZ W _)).cons (heap_alloc_last _ _)
theorem Rc.nil (w : World) : Rc w w [] := ⟨fun p hp => absurd hp (by simp), Below.refl _ _⟩
theorem Rc.start1 (w : World) (t : TypeId) (c : Array Value) : Rc w (w.alloc (.cells c t)) [(w.heap.size, t, c)] := (Rc.nil w).new t c
theorem Rc.start2 (w : World) (t t' : TypeId) (c d : Array Value) : Rc w ((w.alloc (.cells c t)).alloc (.cells d t')) [(w.heap.size + 1, t', d), (w.heap.size, t, c)] := by
  have := (Rc.start1 w t c).new t' d
  rw [show (w.alloc (.cells c t)).heap.size = w.heap.size + 1 by simp] at this
  exact this
/-- Worlds in which these rows lie, as a class. -/
theorem Rc.cls (j : Rc w W l) : ∃ (I : Type) (_ : Nonempty I) (F : I → World) (i0 : I), W.drew = F i0 ∧ Hid (∀ i, Rc w (F i) l) ∧ Hid (∀ i W', Below (F i).heap.size (F i) W' → ∃ j, W' = F j) :=
  ⟨{W : World // Rc w W l}, ⟨⟨_, j⟩⟩, Subtype.val, ⟨W.drew, j.drew⟩, rfl, fun i => i.2, fun i W' b => ⟨⟨W', i.2.next b⟩, rfl⟩⟩
theorem Rc.of {I : Type} {F : I → World} (hJ : Hid (∀ i, Rc w (F i) l)) (h : (g, t, c) ∈ l) (W : World) (hC : ∃ i, W = F i) : W.heap[g]? = some (.cells c t (0, 0)) := by
  obtain ⟨i, rfl⟩ := hC
  exact (hJ.out i).at h
theorem Rc.put {l' : List (Nat × TypeId × Array Value)} (j : Rc w W l) (g : Nat) (t : TypeId) (c : Array Value) (h : ∃ y, (g, t, y) ∈ l) (hg : w.heap.size ≤ g) (hl : ∀ p ∈ l', p = (g, t, c) ∨ (p ∈ l ∧ p.1 ≠ g)) : Rc w (W.setRow g c) l' := by
  obtain ⟨y, hy⟩ := h
  refine ⟨fun p hp => ?_, below_setRow j.bel hg _⟩
  rcases hl p hp with rfl | ⟨h1, h2⟩
  · exact setRow_heap _ _ _ _ _ _ (j.at hy)
  · exact (setRow_other _ _ _ _ h2).trans (j.row p h1)
end
end Go.Proofs.Ytmfpnlnhebjelaa
