/- What a call leaves that may append to two lists: all blocks but theirs are as they were. -/
import Derived.Test.YthlaibkdcebekaaDoorNj
namespace Go.Proofs.YthlaibkdcebekaaDoor
open Go.RowKit
open Go.Deep
/-- A list's block is the one that it was, or a new one. -/
def Nw2 (W : World) (a a' : Value) : Prop := a'.ownBlock = a.ownBlock ∨ ∃ g, a'.ownBlock = some g ∧ W.heap.size ≤ g
theorem Nw2.refl (W : World) (a : Value) : Nw2 W a a := .inl rfl
theorem Nw2.trans {W W1 : World} {a a1 a2 : Value} (h : Nw2 W a a1) (hs : W.heap.size ≤ W1.heap.size) (k : Nw2 W1 a1 a2) : Nw2 W a a2 := by
  rcases k with k | ⟨g, k, hg⟩
  · rcases h with h | ⟨g, h, hg⟩
    · exact .inl (k.trans h)
    · exact .inr ⟨g, k.trans h, hg⟩
  · exact .inr ⟨g, k, Nat.le_trans hs hg⟩
structure On2 (W W' : World) (a b a' b' : Value) : Prop where
  os : W'.os = W.os
  tape : W'.tape = W.tape
  output : W'.output = W.output
  size : W.heap.size ≤ W'.heap.size
  block : ∀ k, k < W.heap.size → a.ownBlock ≠ some k → b.ownBlock ≠ some k → W'.heap[k]? = W.heap[k]?
  na : Nw2 W a a'
  nb : Nw2 W b b'
section
variable {W W1 W2 : World} {a b a1 b1 a2 b2 v : Value}
theorem On2.refl (W : World) (a b : Value) : On2 W W a b a b := ⟨rfl, rfl, rfl, Nat.le_refl _, fun _ _ _ _ => rfl, .inl rfl, .inl rfl⟩
theorem On2.trans (h : On2 W W1 a b a1 b1) (k : On2 W1 W2 a1 b1 a2 b2) : On2 W W2 a b a2 b2 := by
  refine ⟨k.os.trans h.os, k.tape.trans h.tape, k.output.trans h.output, Nat.le_trans h.size k.size, fun i hi ha hb => ?_, h.na.trans h.size k.na, h.nb.trans h.size k.nb⟩
  have na1 : a1.ownBlock ≠ some i := fun e => by
    rcases h.na with h1 | ⟨g, h1, hg⟩
    · exact ha (h1.symm.trans e)
    · rw [h1] at e
      injection e with e
      omega
  have nb1 : b1.ownBlock ≠ some i := fun e => by
    rcases h.nb with h1 | ⟨g, h1, hg⟩
    · exact hb (h1.symm.trans e)
    · rw [h1] at e
      injection e with e
      omega
  exact (k.block i (Nat.lt_of_lt_of_le hi h.size) na1 nb1).trans (h.block i hi ha hb)
theorem On2.of_below (h : Below W.heap.size W W1) (a b : Value) : On2 W W1 a b a b := ⟨h.os, h.tape, h.output, h.size, fun k hk _ _ => h.block k hk, .inl rfl, .inl rfl⟩
theorem On2.ontoA (h : Onto W W1 a a1) (b : Value) : On2 W W1 a b a1 b :=
  ⟨h.grown.os, h.grown.tape, h.grown.output, h.grown.size, fun k hk ha _ => h.grown.block k hk (fun e => ha e.symm), h.lies, .inl rfl⟩
theorem On2.ontoB (h : Onto W W1 b b1) (a : Value) : On2 W W1 a b a b1 :=
  ⟨h.grown.os, h.grown.tape, h.grown.output, h.grown.size, fun k hk _ hb => h.grown.block k hk (fun e => hb e.symm), .inl rfl, h.lies⟩
/-- A store into a block that is new since W. -/
theorem On2.setCell (h : On2 W W1 a b a1 b1) {p : Addr} (hp : W.heap.size ≤ p.block) (u : Value) : On2 W (W1.setCell p u) a b a1 b1 :=
  ⟨h.os, h.tape, h.output, by simpa [World.setCell] using h.size, fun k hk ha hb => (Below.heap_setCell _ _ _ _ (by omega)).trans (h.block k hk ha hb), h.na, h.nb⟩
/-- A row of another's that is no such list's stays. -/
theorem On2.row (h : On2 W W1 a b a1 b1) {g n : Nat} {t : TypeId} {f : Nat → Value} (hr : W.rowIs g t n f) (ha : a.ownBlock ≠ some g) (hb : b.ownBlock ≠ some g) : W1.rowIs g t n f :=
  World.rowIs.of_block hr (h.block g (World.rowIs.lt hr) ha hb)
end
end Go.Proofs.YthlaibkdcebekaaDoor
