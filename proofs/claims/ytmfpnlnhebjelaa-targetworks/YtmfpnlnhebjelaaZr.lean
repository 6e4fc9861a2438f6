/- Rows of numbers in a world, and classes of worlds that have them. -/
import Derived.Test.YtmfpnlnhebjelaaWl
import Derived.Test.YtmfpnlnhebjelaaZf
namespace Go.Proofs.Ytmfpnlnhebjelaa
open Go.RowKit
open Go.Deep
/-- Rows of numbers: place, type, number. -/
structure Rs (w W : World) (l : List (Nat × TypeId × Nat)) : Prop where
  row : ∀ p ∈ l, W.heap[p.1]? = some (.cells (wn p.2.2) p.2.1 (0, 0))
  bel : Below w.heap.size w W
section
variable {w W W' : World} {l : List (Nat × TypeId × Nat)} {g n : Nat} {t : TypeId}
theorem Rs.at (j : Rs w W l) (h : (g, t, n) ∈ l) : W.heap[g]? = some (.cells (wn n) t (0, 0)) := j.row _ h
theorem Rs.next (j : Rs w W l) (h : Below W.heap.size W W') : Rs w W' l := ⟨fun p hp => (h.block _ (lt_heap (j.row p hp))).trans (j.row p hp), below_next j.bel h⟩
theorem Rs.drew (j : Rs w W l) : Rs w W.drew l := ⟨j.row, j.bel.drew⟩
theorem Rs.new (j : Rs w W l) (t : TypeId) (x : Nat) : Rs w (W.alloc (.cells (wn x) t)) ((W.heap.size, t, x) :: l) := by
  have k := j.next ((Below.refl _ _).alloc (Nat.le_refl _) (.cells (wn x) t))
  refine ⟨fun p hp => ?_, k.bel⟩
  rcases List.mem_cons.1 hp with rfl | h
  · exact heap_alloc_last _ _
  · exact k.row p h
theorem Rs.two (j : Rs w W l) (t : TypeId) (x y : Nat) : Rs w ((((W.alloc (.cells (wn 0) t)).alloc (.cells (wn 0) t)).setRow W.heap.size (wn x)).setRow (W.heap.size + 1) (wn y)) ((W.heap.size, t, x) :: (W.heap.size + 1, t, y) :: l) := by
  obtain ⟨e1, e2, b⟩ := blk2w W t (wn 0) (wn x) (wn y)
  have k := j.next b
  refine ⟨fun p hp => ?_, k.bel⟩
  rcases List.mem_cons.1 hp with rfl | hp
  · exact e1
  · rcases List.mem_cons.1 hp with rfl | h
    · exact e2
    · exact k.row p h
theorem Rs.start2 (w : World) (t : TypeId) (m n : Nat) : Rs w ((w.alloc (.cells (wn m) t)).alloc (.cells (wn n) t)) [(w.heap.size + 1, t, n), (w.heap.size, t, m)] := by
  obtain ⟨e1, e2⟩ := blk2x w (.cells (wn m) t) (.cells (wn n) t)
  refine ⟨fun p hp => ?_, below2x w _ _⟩
  simp only [List.mem_cons, List.not_mem_nil, or_false] at hp
  rcases hp with rfl | rfl
  · exact e2
  · exact e1
theorem Rs.start1 (w : World) (t : TypeId) (m : Nat) : Rs w (w.alloc (.cells (wn m) t)) [(w.heap.size, t, m)] := by
  refine ⟨fun p hp => ?_, (Below.refl _ _).alloc (Nat.le_refl _) _⟩
  simp only [List.mem_cons, List.not_mem_nil, or_false] at hp
  subst hp
  exact heap_alloc_last _ _
/-- Worlds in which these rows lie, as a class. -/
theorem Rs.cls (j : Rs w W l) : ∃ (I : Type) (_ : Nonempty I) (F : I → World) (i0 : I), W.drew = F i0 ∧ Hid (∀ i, Rs w (F i) l) ∧ Hid (∀ i W', Below (F i).heap.size (F i) W' → ∃ j, W' = F j) :=
  ⟨{W : World // Rs w W l}, ⟨⟨_, j⟩⟩, Subtype.val, ⟨W.drew, j.drew⟩, rfl, fun i => i.2, fun i W' b => ⟨⟨W', i.2.next b⟩, rfl⟩⟩
theorem Rs.of {I : Type} {F : I → World} (hJ : Hid (∀ i, Rs w (F i) l)) (h : (g, t, n) ∈ l) (W : World) (hC : ∃ i, W = F i) : W.heap[g]? = some (.cells (wn n) t (0, 0)) := by
  obtain ⟨i, rfl⟩ := hC
  exact (hJ.out i).at h
end
theorem below_allocZ (W : World) (o : Obj) : Below W.heap.size W (W.alloc o) := (Below.refl _ _).alloc (Nat.le_refl _) _
theorem Rs.put {w W : World} {l l' : List (Nat × TypeId × Nat)} (j : Rs w W l) (g : Nat) (t : TypeId) (x : Nat) (h : ∃ y, (g, t, y) ∈ l) (hg : w.heap.size ≤ g) (hl : ∀ p ∈ l', p = (g, t, x) ∨ (p ∈ l ∧ p.1 ≠ g)) : Rs w (W.setRow g (wn x)) l' := by
  obtain ⟨y, hy⟩ := h
  refine ⟨fun p hp => ?_, below_setRow j.bel hg _⟩
  rcases hl p hp with rfl | ⟨h1, h2⟩
  · exact setRow_heap _ _ _ _ _ _ (j.at hy)
  · exact (setRow_other _ _ _ _ h2).trans (j.row p h1)
end Go.Proofs.Ytmfpnlnhebjelaa
