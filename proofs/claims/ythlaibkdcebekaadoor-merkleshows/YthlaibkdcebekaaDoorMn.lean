/- The law MerkleBranches: its walk. -/
import Derived.Test.YthlaibkdcebekaaDoorMy
namespace Go.Proofs.YthlaibkdcebekaaDoor
open Go.RowKit
open Go.Deep
theorem byte_of_int (p : Int) : ∃ b : UInt8, IntKind.u8.wrap p = (b.toNat : Int) := by
  refine ⟨UInt8.ofNat (p % 256).toNat, ?_⟩
  rw [UInt8.toNat_ofNat', IntKind.wrap_u8]
  omega
/-- Rows of ids: place, type, id. -/
structure Hs (w W : World) (l : List (Nat × TypeId × List UInt8)) : Prop where
  row : ∀ p ∈ l, W.heap[p.1]? = some (.cells (hc p.2.2) p.2.1 (0, 0))
  bel : Below w.heap.size w W
section
variable {w W W' : World} {l : List (Nat × TypeId × List UInt8)} {g : Nat} {t : TypeId} {x : List UInt8}
theorem Hs.at (j : Hs w W l) (h : (g, t, x) ∈ l) : W.heap[g]? = some (.cells (hc x) t (0, 0)) := j.row _ h
theorem Hs.next (j : Hs w W l) (h : Below W.heap.size W W') : Hs w W' l := ⟨fun p hp => (h.block _ (lt_heap (j.row p hp))).trans (j.row p hp), below_next j.bel h⟩
theorem Hs.drew (j : Hs w W l) : Hs w W.drew l := ⟨j.row, j.bel.drew⟩
theorem Hs.new (j : Hs w W l) (t : TypeId) (x : List UInt8) : Hs w (W.alloc (.cells (hc x) t)) ((W.heap.size, t, x) :: l) := by
  have k := j.next ((Below.refl _ _).alloc (Nat.le_refl _) (.cells (hc x) t))
  refine ⟨fun p hp => ?_, k.bel⟩
  rcases List.mem_cons.1 hp with rfl | h
  · exact heap_alloc_last _ _
  · exact k.row p h
theorem Hs.start (B : Below w.heap.size w W) : Hs w W [] := ⟨fun _ hp => (List.not_mem_nil hp).elim, B⟩
end
theorem ldh_row {W : World} {g : Nat} {t : TypeId} {x : List UInt8} (hx : x.length = 32) (h : W.heap[g]? = some (.cells (hc x) t (0, 0))) : (ldh (.pointer (some ⟨g, 0, none⟩))).run Tryd.prog W = .ok (.agg (hc x)) W := ld_row A25 (by rw [hc_size, hx]) h
attribute [local go_sem ↓] ldh_eq
section
set_option maxRecDepth 10000
set_option maxHeartbeats 40000000
end
end Go.Proofs.YthlaibkdcebekaaDoor
