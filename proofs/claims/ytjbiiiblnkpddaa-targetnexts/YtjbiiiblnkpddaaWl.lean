/- awake; wide.Sum; the law WideLists: its walk. -/
import Derived.Test.YtjbiiiblnkpddaaWk
namespace Go.Proofs.Ytjbiiiblnkpddaa
open Go.RowKit
open Go.Deep
theorem two_more {W : World} (A B : Obj) : ((W.alloc A).alloc B).heap[W.heap.size]? = some A ∧ ((W.alloc A).alloc B).heap[W.heap.size + 1]? = some B := blk2x W A B
theorem blk2s (w : World) (A B : Obj) (c : Array Value) : (((w.alloc A).alloc B).setRow w.heap.size c).heap[(w.alloc A).heap.size]? = some B := by
  have e : (w.alloc A).heap.size = w.heap.size + 1 := by simp
  rw [e]
  exact (setRow_other _ _ _ _ (by omega)).trans (blk2x w A B).2
/-- Two rows that were made and written. -/
theorem blk2w (w : World) (t : TypeId) (z c d : Array Value) : ((((w.alloc (.cells z t)).alloc (.cells z t)).setRow w.heap.size c).setRow (w.heap.size + 1) d).heap[w.heap.size]? = some (.cells c t (0, 0)) ∧ ((((w.alloc (.cells z t)).alloc (.cells z t)).setRow w.heap.size c).setRow (w.heap.size + 1) d).heap[w.heap.size + 1]? = some (.cells d t (0, 0)) ∧ Below w.heap.size w ((((w.alloc (.cells z t)).alloc (.cells z t)).setRow w.heap.size c).setRow (w.heap.size + 1) d) :=
  ⟨(setRow_other _ _ _ _ (by omega)).trans (setRow_heap _ _ _ _ _ _ (blk2x w _ _).1), setRow_heap _ _ _ _ _ _ ((setRow_other _ _ _ _ (by omega)).trans (blk2x w _ _).2), below_setRow (below_setRow (below2x w _ _) (Nat.le_refl _) _) (by omega) _⟩
theorem wd_four {m : Nat} : wn m = nc 4 (wd m) := rfl
/-- Numbers in a slice. -/
def Wds (w : World) (ao : Option Addr) (n : Nat) (id : Nat → Nat) : Prop := ∀ i, i < n → id i < M ∧ ∃ g off, ao = some ⟨g, off, none⟩ ∧ g < w.heap.size ∧ w.rangeAt g (off + i * 4) (wn (id i)).toList
theorem range_below {w W : World} {B g off : Nat} {cs : List Value} (hr : w.rangeAt g off cs) (hb : Below B w W) (hg : g < B) : W.rangeAt g off cs := fun j v hv => by
  have := hr j v hv
  rw [← this]
  exact hb.cell (p := ⟨g, off + j, none⟩) hg
section
set_option maxRecDepth 10000
set_option maxHeartbeats 2000000
end
end Go.Proofs.Ytjbiiiblnkpddaa
