/- Regions that draw their order, with calls, new rows and stores into them: what is known of the rows in every order. -/
import Derived.Test.YtmfpnlnhebjelaaZr
import Derived.Test.YtmfpnlnhebjelaaZj
namespace Go.Proofs.Ytmfpnlnhebjelaa
open Go.RowKit
open Go.Deep
theorem ldB {W0 Y : World} {N T : Nat} {t : TypeId} (hN : W0.heap[N]? = some (.cells (wn T) t (0, 0))) (B : Below W0.heap.size W0 Y) : (ldW (.pointer (some ⟨N, 0, none⟩))).run Try.prog Y = .ok (.agg (wn T)) Y := ldW_row ((B.block _ (lt_heap hN)).trans hN)
theorem bel_alloc {W0 Y : World} (B : Below W0.heap.size W0 Y) (o : Obj) : Below W0.heap.size W0 (Y.alloc o) := below_next B (below_allocZ Y o)
theorem bel_size {W0 Y : World} (B : Below W0.heap.size W0 Y) : W0.heap.size ≤ Y.heap.size := B.size
theorem bel_put {W0 Y : World} {g : Nat} (B : Below W0.heap.size W0 Y) (h : W0.heap.size ≤ g) (c : Array Value) : Below W0.heap.size W0 (Y.setRow g c) := below_setRow B h c
theorem Rs.cons {w W : World} {l : List (Nat × TypeId × Nat)} {g n : Nat} {t : TypeId} (j : Rs w W l) (h : W.heap[g]? = some (.cells (wn n) t (0, 0))) : Rs w W ((g, t, n) :: l) := by
  refine ⟨fun p hp => ?_, j.bel⟩
  rcases List.mem_cons.1 hp with rfl | h2
  · exact h
  · exact j.row p h2
theorem row_new (W : World) (n : Nat) : ((W.alloc (.cells #[.int .u64 0, .int .u64 0, .int .u64 0, .int .u64 0] 24)).setRow W.heap.size (wn n)).heap[W.heap.size]? = some (.cells (wn n) 24 (0, 0)) := by
  rw [← zW_eq]
  exact setRow_heap _ _ _ _ _ _ (heap_alloc_last W _)
/-- A row that was made ahead of a call is there behind it. -/
theorem zero_kept {W Y : World} (be : Below (W.alloc (.cells #[.int .u64 0, .int .u64 0, .int .u64 0, .int .u64 0] 24)).heap.size (W.alloc (.cells #[.int .u64 0, .int .u64 0, .int .u64 0, .int .u64 0] 24)) Y) : Y.heap[W.heap.size]? = some (.cells (wn 0) 24 (0, 0)) :=
  (be.block _ (by simp)).trans (by rw [zW_eq]; exact heap_alloc_last W _)
theorem zero_kept_drew {W Y : World} (be : Below (W.alloc (.cells #[.int .u64 0, .int .u64 0, .int .u64 0, .int .u64 0] 24)).drew.heap.size (W.alloc (.cells #[.int .u64 0, .int .u64 0, .int .u64 0, .int .u64 0] 24)).drew Y) : Y.heap[W.heap.size]? = some (.cells (wn 0) 24 (0, 0)) :=
  (be.block _ (by simp)).trans (by rw [zW_eq]; exact heap_alloc_last W _)
theorem row_kept {W Y : World} {g n : Nat} {t : TypeId} (z : W.heap[g]? = some (.cells (wn n) t (0, 0))) (be : Below W.heap.size W Y) : Y.heap[g]? = some (.cells (wn n) t (0, 0)) := (be.block _ (lt_heap z)).trans z
theorem zero_kept2 {W Y : World} (be : Below ((W.alloc (.cells #[.int .u64 0, .int .u64 0, .int .u64 0, .int .u64 0] 24)).alloc (.cells #[.int .u64 0, .int .u64 0, .int .u64 0, .int .u64 0] 24)).heap.size ((W.alloc (.cells #[.int .u64 0, .int .u64 0, .int .u64 0, .int .u64 0] 24)).alloc (.cells #[.int .u64 0, .int .u64 0, .int .u64 0, .int .u64 0] 24)) Y) : Y.heap[W.heap.size]? = some (.cells (wn 0) 24 (0, 0)) ∧ Y.heap[W.heap.size + 1]? = some (.cells (wn 0) 24 (0, 0)) := by
  rw [zW_eq]
  exact ⟨(be.block _ (by simp <;> omega)).trans (blk2x W _ _).1, (be.block _ (by simp <;> omega)).trans (blk2x W _ _).2⟩
theorem zero_kept2_drew {W Y : World} (be : Below ((W.alloc (.cells #[.int .u64 0, .int .u64 0, .int .u64 0, .int .u64 0] 24)).alloc (.cells #[.int .u64 0, .int .u64 0, .int .u64 0, .int .u64 0] 24)).drew.heap.size ((W.alloc (.cells #[.int .u64 0, .int .u64 0, .int .u64 0, .int .u64 0] 24)).alloc (.cells #[.int .u64 0, .int .u64 0, .int .u64 0, .int .u64 0] 24)).drew Y) : Y.heap[W.heap.size]? = some (.cells (wn 0) 24 (0, 0)) ∧ Y.heap[W.heap.size + 1]? = some (.cells (wn 0) 24 (0, 0)) := by
  rw [zW_eq]
  exact ⟨(be.block _ (by simp <;> omega)).trans (blk2x W _ _).1, (be.block _ (by simp <;> omega)).trans (blk2x W _ _).2⟩
/-- Two rows of zeros, into which two numbers are stored, in either order. -/
structure Tw (X : World) (gA gB Q R : Nat) : Prop where
  p1 : (svW (.pointer (some ⟨gA, 0, none⟩)) (.agg (wn Q))).run Try.prog X = .ok () (X.setRow gA (wn Q))
  p2 : (svW (.pointer (some ⟨gB, 0, none⟩)) (.agg (wn Q))).run Try.prog X = .ok () (X.setRow gB (wn Q))
  p3 : (svW (.pointer (some ⟨gB, 0, none⟩)) (.agg (wn R))).run Try.prog (X.setRow gA (wn Q)) = .ok () ((X.setRow gA (wn Q)).setRow gB (wn R))
  p4 : (svW (.pointer (some ⟨gA, 0, none⟩)) (.agg (wn R))).run Try.prog (X.setRow gB (wn Q)) = .ok () ((X.setRow gB (wn Q)).setRow gA (wn R))
  e1 : ((X.setRow gA (wn Q)).setRow gB (wn R)).heap[gA]? = some (.cells (wn Q) 24 (0, 0)) ∧ ((X.setRow gA (wn Q)).setRow gB (wn R)).heap[gB]? = some (.cells (wn R) 24 (0, 0))
  e2 : ((X.setRow gB (wn Q)).setRow gA (wn R)).heap[gB]? = some (.cells (wn Q) 24 (0, 0)) ∧ ((X.setRow gB (wn Q)).setRow gA (wn R)).heap[gA]? = some (.cells (wn R) 24 (0, 0))
theorem tw {X : World} {gA gB : Nat} (zA : X.heap[gA]? = some (.cells (wn 0) 24 (0, 0))) (zB : X.heap[gB]? = some (.cells (wn 0) 24 (0, 0))) (h : gA < gB) (Q R : Nat) : Tw X gA gB Q R := by
  have a1 : (X.setRow gA (wn Q)).heap[gB]? = some (.cells (wn 0) 24 (0, 0)) := (setRow_other _ _ _ _ (by omega)).trans zB
  have a2 : (X.setRow gB (wn Q)).heap[gA]? = some (.cells (wn 0) 24 (0, 0)) := (setRow_other _ _ _ _ (by omega)).trans zA
  exact ⟨svW_row zA Q, svW_row zB Q, svW_row a1 R, svW_row a2 R, ⟨(setRow_other _ _ _ _ (by omega)).trans (setRow_heap _ _ _ _ _ _ zA), setRow_heap _ _ _ _ _ _ a1⟩, ⟨(setRow_other _ _ _ _ (by omega)).trans (setRow_heap _ _ _ _ _ _ zB), setRow_heap _ _ _ _ _ _ a2⟩⟩
theorem tw_one {X : World} {gA : Nat} (zA : X.heap[gA]? = some (.cells (wn 0) 24 (0, 0))) (Q R : Nat) : Tw (X.alloc (.cells #[.int .u64 0, .int .u64 0, .int .u64 0, .int .u64 0] 24)) gA X.heap.size Q R := by
  rw [← zW_eq]
  exact tw ((Below.heap_alloc _ _ _ (lt_heap zA)).trans zA) (heap_alloc_last X _) (lt_heap zA) Q R
theorem tw_two (X : World) (Q R : Nat) : Tw ((X.alloc (.cells #[.int .u64 0, .int .u64 0, .int .u64 0, .int .u64 0] 24)).alloc (.cells #[.int .u64 0, .int .u64 0, .int .u64 0, .int .u64 0] 24)) X.heap.size (X.heap.size + 1) Q R := by
  rw [← zW_eq]
  exact tw (blk2x X _ _).1 (blk2x X _ _).2 (by omega) Q R
end Go.Proofs.Ytmfpnlnhebjelaa
