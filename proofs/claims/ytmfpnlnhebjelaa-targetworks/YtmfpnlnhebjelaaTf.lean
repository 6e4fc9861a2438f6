/- The contracts of the document's Of, raw and Limit. -/
import Derived.Test.YtmfpnlnhebjelaaTe
import Derived.Test.YtmfpnlnhebjelaaTb
namespace Go.Proofs.Ytmfpnlnhebjelaa
open Go.RowKit
open Go.Deep
/-- The number of 32 bytes. -/
def hv (l : List UInt8) : Nat := vs 256 (by8 l) 32
theorem hv_lt (l : List UInt8) : hv l < M := by
  have := vs_lt (B := 256) (f := by8 l) (k := 32) (fun i _ => by8_lt l i)
  have e : M = 256 ^ 32 := by decide +kernel
  rw [e]
  exact this
/-- The digits below i, zeros behind. -/
def lowd (l : List UInt8) (i j : Nat) : Nat := if j < i then by8 l j else 0
theorem lowd_step (l : List UInt8) (i j : Nat) : (if j = i then by8 l i else lowd l i j) = lowd l (i + 1) j := by
  unfold lowd
  by_cases e : j = i
  · rw [if_pos e, if_pos (by omega), e]
  · rw [if_neg e]
    by_cases e2 : j < i
    · rw [if_pos e2, if_pos (by omega)]
    · rw [if_neg e2, if_neg (by omega)]
theorem lowd_end (l : List UInt8) (j : Nat) : lowd l 32 j = dg 256 (hv l) j := by
  unfold lowd hv
  split
  · rename_i h
    exact (dg_vs (fun i _ => by8_lt l i) j h).symm
  · rename_i h
    have h1 := vs_lt (B := 256) (f := by8 l) (k := 32) (fun i _ => by8_lt l i)
    have h2 : 256 ^ 32 ≤ 256 ^ j := Nat.pow_le_pow_right (by decide) (by omega)
    rw [dg, Nat.div_eq_of_lt (by omega), Nat.zero_mod]
/-- Bytes, an answer's place, and a row of ints. -/
structure On (w W : World) (t u : TypeId) (l : List UInt8) (f : Nat → Nat) : Prop where
  a : W.heap[w.heap.size]? = some (.cells (hc l) t (0, 0))
  r : W.heap[w.heap.size + 1]? = some (.cells (bn 0) u (0, 0))
  o : Ni W (w.heap.size + 1 + 1) u 40 f
  bel : Below w.heap.size w W
theorem On.start (w : World) (t u : TypeId) (l : List UInt8) : On w (((w.alloc (.cells (hc l) t)).alloc (.cells (bn 0) u)).alloc (.cells (bn 0) u)) t u l (dg 256 0) := by
  obtain ⟨e1, e2, e3⟩ := blk3 w (.cells (hc l) t) (.cells (bn 0) u) (.cells (bn 0) u)
  exact ⟨e1, e2, Ni.of_heap e3, below3 w _ _ _⟩
theorem On.set {w W : World} {t u : TypeId} {l : List UInt8} {f : Nat → Nat} (j : On w W t u l f) (i x : Nat) : On w (W.setCell ⟨w.heap.size + 1 + 1, i, none⟩ (.int .i64 ((x : Nat) : Int))) t u l (fun k => if k = i then x else f k) :=
  ⟨(Below.heap_setCell _ _ _ _ (by simp <;> omega)).trans j.a, (Below.heap_setCell _ _ _ _ (by simp <;> omega)).trans j.r, j.o.set i x, j.bel.setCell (by simp <;> omega) _⟩
theorem On.congr {w W : World} {t u : TypeId} {l : List UInt8} {f f' : Nat → Nat} (j : On w W t u l f) (e : ∀ i, i < 40 → f i = f' i) : On w W t u l f' := ⟨j.a, j.r, j.o.congr e, j.bel⟩
theorem A49 : Arr 28 32 (hc zeros) := ⟨.inl ⟨_, _, Try.underlying28⟩, by kernel_rfl, fun w => by kernel_rfl, fun w => by kernel_rfl, by rw [hc_size]; rfl⟩
theorem hc_cell {W : World} {g : Nat} {t : TypeId} {l : List UInt8} (h : W.heap[g]? = some (.cells (hc l) t (0, 0))) (i : Nat) (hi : i < l.length) : W.cell? ⟨g, i, none⟩ = some (.int .u8 (by8 l i : Int)) :=
  World.rowIs.cell (row_of (f := fun i => .int .u8 (by8 l i : Int)) (hc_size l) h (fun k hk => hc_at l k hk)) hi
section
set_option maxRecDepth 10000
set_option maxHeartbeats 2000000
end
end Go.Proofs.Ytmfpnlnhebjelaa
