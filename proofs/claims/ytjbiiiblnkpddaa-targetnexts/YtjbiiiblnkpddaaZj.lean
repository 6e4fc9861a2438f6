/- The contract of the document's Sub. -/
import Derived.Test.YtjbiiiblnkpddaaZb
import Derived.Test.YtjbiiiblnkpddaaZf
namespace Go.Proofs.Ytjbiiiblnkpddaa
open Go.RowKit
open Go.Deep
theorem sub_words (m n : Nat) (hn : n < M) : wn ((m + (M - 1 - n)) % M + 1) = wn (df m n) := by
  rw [← wn_mod ((m + (M - 1 - n)) % M + 1), Nat.mod_add_mod, df, show m + (M - 1 - n) + 1 = m + M - n by omega, wn_mod]
theorem cmp_neg (m n : Nat) : (cmpZ m n < 0) = (m < n) := by
  apply propext
  unfold cmpZ
  split
  · simp; omega
  · split <;> simp <;> omega
/-- Two numbers, an answer's place, and a number at g. -/
structure Sb (w W : World) (t : TypeId) (m n g x : Nat) : Prop where
  a : W.heap[w.heap.size]? = some (.cells (wn m) t (0, 0))
  b : W.heap[w.heap.size + 1]? = some (.cells (wn n) t (0, 0))
  r : W.heap[w.heap.size + 1 + 1]? = some (.cells (wn 0) t (0, 0))
  o : W.heap[g]? = some (.cells (wn x) t (0, 0))
  lt : w.heap.size + 1 + 1 < g
  bel : Below w.heap.size w W
section
variable {w W W' : World} {t : TypeId} {m n g x : Nat}
theorem Sb.next (j : Sb w W t m n g x) (h : Below W.heap.size W W') : Sb w W' t m n g x :=
  ⟨(h.block _ (lt_heap j.a)).trans j.a, (h.block _ (lt_heap j.b)).trans j.b, (h.block _ (lt_heap j.r)).trans j.r, (h.block _ (lt_heap j.o)).trans j.o, j.lt, below_next j.bel h⟩
theorem Sb.drew (j : Sb w W t m n g x) : Sb w W.drew t m n g x := ⟨j.a, j.b, j.r, j.o, j.lt, j.bel.drew⟩
theorem Sb.put (j : Sb w W t m n g x) (y : Nat) : Sb w (W.setRow g (wn y)) t m n g y := by
  have := j.lt
  exact ⟨(setRow_other _ _ _ _ (by omega)).trans j.a, (setRow_other _ _ _ _ (by omega)).trans j.b, (setRow_other _ _ _ _ (by omega)).trans j.r, setRow_heap _ _ _ _ _ _ j.o, j.lt, below_setRow j.bel (by omega) _⟩
theorem Sb.three (w : World) (t : TypeId) (m n : Nat) : (((w.alloc (.cells (wn m) t)).alloc (.cells (wn n) t)).alloc (.cells (wn 0) t)).heap[w.heap.size]? = some (.cells (wn m) t (0, 0)) ∧ (((w.alloc (.cells (wn m) t)).alloc (.cells (wn n) t)).alloc (.cells (wn 0) t)).heap[w.heap.size + 1]? = some (.cells (wn n) t (0, 0)) ∧ (((w.alloc (.cells (wn m) t)).alloc (.cells (wn n) t)).alloc (.cells (wn 0) t)).heap[w.heap.size + 1 + 1]? = some (.cells (wn 0) t (0, 0)) ∧ Below w.heap.size w (((w.alloc (.cells (wn m) t)).alloc (.cells (wn n) t)).alloc (.cells (wn 0) t)) := by
  obtain ⟨e1, e2, e3⟩ := blk3 w (.cells (wn m) t) (.cells (wn n) t) (.cells (wn 0) t)
  exact ⟨e1, e2, e3, below3 w _ _ _⟩
/-- Three rows. -/
structure S3 (w W : World) (t : TypeId) (m n : Nat) : Prop where
  a : W.heap[w.heap.size]? = some (.cells (wn m) t (0, 0))
  b : W.heap[w.heap.size + 1]? = some (.cells (wn n) t (0, 0))
  r : W.heap[w.heap.size + 1 + 1]? = some (.cells (wn 0) t (0, 0))
  bel : Below w.heap.size w W
theorem S3.next (j : S3 w W t m n) (h : Below W.heap.size W W') : S3 w W' t m n :=
  ⟨(h.block _ (lt_heap j.a)).trans j.a, (h.block _ (lt_heap j.b)).trans j.b, (h.block _ (lt_heap j.r)).trans j.r, below_next j.bel h⟩
theorem S3.drew (j : S3 w W t m n) : S3 w W.drew t m n := ⟨j.a, j.b, j.r, j.bel.drew⟩
theorem S3.new (j : S3 w W t m n) (x : Nat) : Sb w (W.alloc (.cells (wn x) t)) t m n W.heap.size x := by
  have k := j.next ((Below.refl _ _).alloc (Nat.le_refl _) (.cells (wn x) t))
  exact ⟨k.a, k.b, k.r, heap_alloc_last _ _, lt_heap j.r, k.bel⟩
theorem S3.alloc (j : S3 w W t m n) (o : Obj) : S3 w (W.alloc o) t m n := j.next ((Below.refl _ _).alloc (Nat.le_refl _) _)
theorem S3.at (j : S3 w W t m n) (z : W.heap[g]? = some (.cells (wn x) t (0, 0))) (lt : w.heap.size + 1 + 1 < g) : Sb w W t m n g x := ⟨j.a, j.b, j.r, z, lt, j.bel⟩
theorem S3.lt (j : S3 w W t m n) : w.heap.size + 1 + 1 < W.heap.size := lt_heap j.r
theorem S3.start (w : World) (t : TypeId) (m n : Nat) : S3 w (((w.alloc (.cells (wn m) t)).alloc (.cells (wn n) t)).alloc (.cells (wn 0) t)) t m n := by
  obtain ⟨a, b, c, d⟩ := Sb.three w t m n
  exact ⟨a, b, c, d⟩
end
theorem zW_eq : wn 0 = #[.int .u64 0, .int .u64 0, .int .u64 0, .int .u64 0] := wn_small 0 (by decide)
theorem svR_new (W : World) (n : Nat) : (svR (.pointer (some ⟨W.heap.size, 0, none⟩)) (.agg (wn n))).run Try.prog (W.alloc (.cells #[.int .u64 0, .int .u64 0, .int .u64 0, .int .u64 0] 24)) = .ok () ((W.alloc (.cells #[.int .u64 0, .int .u64 0, .int .u64 0, .int .u64 0] 24)).setRow W.heap.size (wn n)) := by
  rw [← zW_eq]
  exact svR_row (heap_alloc_last W _) n
theorem svW_new (W : World) (n : Nat) : (svW (.pointer (some ⟨W.heap.size, 0, none⟩)) (.agg (wn n))).run Try.prog (W.alloc (.cells #[.int .u64 0, .int .u64 0, .int .u64 0, .int .u64 0] 25)) = .ok () ((W.alloc (.cells #[.int .u64 0, .int .u64 0, .int .u64 0, .int .u64 0] 25)).setRow W.heap.size (wn n)) := by
  rw [← zW_eq]
  exact svW_row (heap_alloc_last W _) n
attribute [local go_sem ↓] ldR_eq svR_eq
section
set_option maxRecDepth 10000
set_option maxHeartbeats 2000000
end
end Go.Proofs.Ytjbiiiblnkpddaa
