/- awake; wide.Sum; the law WideLists: its walk. -/
import Derived.Test.YtmfpnlnhebjelaaWk
namespace Go.Proofs.Ytmfpnlnhebjelaa
open Go.RowKit
open Go.Deep
theorem two_more {W : World} (A B : Obj) : ((W.alloc A).alloc B).heap[W.heap.size]? = some A ∧ ((W.alloc A).alloc B).heap[W.heap.size + 1]? = some B := blk2x W A B
theorem blk2s (w : World) (A B : Obj) (c : Array Value) : (((w.alloc A).alloc B).setRow w.heap.size c).heap[(w.alloc A).heap.size]? = some B := by
  have e : (w.alloc A).heap.size = w.heap.size + 1 := by simp
  rw [e]
  exact (setRow_other _ _ _ _ (by omega)).trans (blk2x w A B).2
/-- Two rows that were made and written. -/
theorem blk2w (w : World) (t : TypeId) (z c d : Array Value) : ((((w.alloc (.cells z t)).alloc (.cells z t)).setRow w.heap.size c).setRow (w.heap.size + 1) d).heap[w.heap.size]? = some (.cells c t (0, 0)) ∧ ((((w.alloc (.cells z t)).alloc (.cells z t)).setRow w.heap.size c).setRow (w.heap.size + 1) d).heap[w.heap.size + 1]? = some (.cells d t (0, 0)) ∧ Below w.heap.size w ((((w.alloc (.cells z t)).alloc (.cells z t)).setRow w.heap.size c).setRow (w.heap.size + 1) d) :=
  ⟨(setRow_other _ _ _ _ (by omega)).trans (setRow_heap _ _ _ _ _ _ (blk2x w _ _).1), setRow_heap _ _ _ _ _ _ ((setRow_other _ _ _ _ (by omega)).trans (blk2x w _ _).2), below_setRow (below_setRow (below2x w _ _) (Nat.le_refl _) _) (by omega) _⟩
theorem wd_four {m : Nat} : wn m = nc 4 (wd m) := rfl
/-- Numbers in a slice. -/
def Wds (w : World) (ao : Option Addr) (n : Nat) (id : Nat → Nat) : Prop := ∀ i, i < n → id i < M ∧ ∃ g off, ao = some ⟨g, off, none⟩ ∧ g < w.heap.size ∧ w.rangeAt g (off + i * 4) (wn (id i)).toList
theorem range_below {w W : World} {B g off : Nat} {cs : List Value} (hr : w.rangeAt g off cs) (hb : Below B w W) (hg : g < B) : W.rangeAt g off cs := fun j v hv => by
  have := hr j v hv
  rw [← this]
  exact hb.cell (p := ⟨g, off + j, none⟩) hg
section
set_option maxRecDepth 10000
set_option maxHeartbeats 2000000
theorem awake_any (w : World) : Calls Try.prog 6 #[] w fun e w' => e = .returned (.bool true) ∧ Below w.heap.size w w' := by
  have HF7 : Hid (∀ W, Calls Try.prog 14 #[.int .u64 7] W fun e w' => e = .returned (.agg (wn 7)) ∧ Below W.heap.size W w') := fun W => from_any 7 (by decide) W
  have HF2 : Hid (∀ W, Calls Try.prog 14 #[.int .u64 2] W fun e w' => e = .returned (.agg (wn 2)) ∧ Below W.heap.size W w') := fun W => from_any 2 (by decide) W
  have HA : Hid (∀ W, Calls Try.prog 36 #[.agg (wn 7), .agg (wn 2)] W fun e w' => e = .returned (.tuple #[.agg (wn 9), .bool false]) ∧ Below W.heap.size W w') := fun W => by
    have := wadd_any 7 2 (by decide) (by decide) W
    rw [show decide (M ≤ 7 + 2) = false by decide] at this
    exact this
  have HD : Hid (∀ W, Calls Try.prog 37 #[.agg (wn 7), .agg (wn 2)] W fun e w' => e = .returned (.tuple #[.agg (wn 3), .agg (wn 1), .int .i64 0]) ∧ Below W.heap.size W w') := fun W => div_word 7 2 (by decide) (by decide) (by decide) W
  have E9 := hide fun W => eqW 9 9 (by decide) (by decide) W
  have E3 := hide fun W => eqW 3 3 (by decide) (by decide) W
  have E1 := hide fun W => eqW 1 1 (by decide) (by decide) W
  rw [show decide (9 = 9) = true by decide] at E9
  rw [show decide (3 = 3) = true by decide] at E3
  rw [show decide (1 = 1) = true by decide] at E1
  have B9 : Hid (∀ W, (Instr.build 24 #[(0, .int .u64 9)]).run Try.prog W = .ok (.agg (wn 9)) W) := fun W => run_buildW 9 (by decide) W
  have B3 : Hid (∀ W, (Instr.build 24 #[(0, .int .u64 3)]).run Try.prog W = .ok (.agg (wn 3)) W) := fun W => run_buildW 3 (by decide) W
  have B1 : Hid (∀ W, (Instr.build 24 #[(0, .int .u64 1)]).run Try.prog W = .ok (.agg (wn 1)) W) := fun W => run_buildW 1 (by decide) W
  go_enter Try.func6, Try.ntmps6
  go_upto_region 2 with (first | (go_at_call_of 14 (Value.int .u64 7); refine (HF7.out _).mono ?_; rintro e w1 ⟨rfl, b1⟩) | (go_at_call_of 14 (Value.int .u64 2); refine (HF2.out _).mono ?_; rintro e w2 ⟨rfl, b2⟩; have K2 := hide (below_next b1 b2); clear b1 b2) | (go_at_call 36; refine (HA.out _).mono ?_; rintro e w3 ⟨rfl, b3⟩; have K3 := hide (below_next K2.out b3); clear b3 K2) | refine wpList_allocA AW rfl rfl ?_ | refine wpList_store_newA AW rfl _ _ rfl _ rfl (wn 9) (wn_size _) (wn_one _) rfl rfl ?_)
  have H1 := hide (heap_alloc_last w3 (.cells (wn 9) 24))
  have K4 := hide (below_next K3.out ((Below.refl _ _).alloc (Nat.le_refl _) (.cells (wn 9) 24)))
  generalize w3.alloc (.cells (wn 9) 24) = W4 at *
  generalize w3.heap.size = g1 at *
  clear K3
  go_upto_region 3 with (first | (go_at_call_of 14 (Value.int .u64 7); refine (HF7.out _).mono ?_; rintro e w5 ⟨rfl, b5⟩) | (go_at_call_of 14 (Value.int .u64 2); refine (HF2.out _).mono ?_; rintro e w6 ⟨rfl, b6⟩; have K6 := hide (b5.trans (b6.mono b5.size)); clear b5 b6) | (go_at_call 37; refine (HD.out _).mono ?_; rintro e w7 ⟨rfl, b7⟩; have K7 := hide (K6.out.trans (b7.mono K6.out.size)); clear b7 K6) | refine wpList_allocA AW rfl rfl ?_ | refine wpList_store_newA AW rfl _ _ rfl _ rfl (wn 1) (wn_size _) (wn_one _) rfl rfl ?_ | refine wpList_storeA AW rfl _ _ rfl _ (wn 3) (wn_size _) (wn_one _) rfl rfl (wn 0) (wn_size _) 24 (blk2x w7 (.cells (wn 0) 24) (.cells (wn 0) 24)).1 ?_ | refine wpList_storeA AW rfl _ _ rfl _ (wn 1) (wn_size _) (wn_one _) rfl rfl (wn 0) (wn_size _) 24 (blk2s w7 (.cells (wn 0) 24) (.cells (wn 0) 24) (wn 3)) ?_)
  obtain ⟨r3, r4, rb⟩ := blk2w w7 24 (wn 0) (wn 3) (wn 1)
  have H3 := hide r3
  have H4 := hide r4
  have H1' := hide ((rb.block _ (Nat.lt_of_lt_of_le (lt_heap H1.out) K7.out.size)).trans ((K7.out.block _ (lt_heap H1.out)).trans H1.out))
  have K8 := hide (below_next K4.out (K7.out.trans (rb.mono K7.out.size)))
  clear r3 r4 rb H1 K4 K7
  have hsz : (w7.alloc (.cells (wn 0) 24)).heap.size = w7.heap.size + 1 := by simp
  try rw [hsz]
  clear hsz
  generalize (((w7.alloc (.cells (wn 0) 24)).alloc (.cells (wn 0) 24)).setRow w7.heap.size (wn 3)).setRow (w7.heap.size + 1) (wn 1) = W8 at *
  go_wp2_with (first | refine wpList_loadW AW rfl _ rfl _ rfl (wn 9) (wn_size _) 24 H1'.out ?_ | refine wpList_loadW AW rfl _ rfl _ rfl (wn 3) (wn_size _) 24 H3.out ?_ | refine wpList_loadW AW rfl _ rfl _ rfl (wn 1) (wn_size _) 24 H4.out ?_ | refine wpList_build1 rfl _ rfl _ (wn 9) B9.out rfl ?_ | refine wpList_build1 rfl _ rfl _ (wn 3) B3.out rfl ?_ | refine wpList_build1 rfl _ rfl _ (wn 1) B1.out rfl ?_ | refine wpList_eql 24 _ _ _ rfl (wn 9) (wn 9) rfl rfl rfl eqgW true E9.out ?_ | refine wpList_eql 24 _ _ _ rfl (wn 3) (wn 3) rfl rfl rfl eqgW true E3.out ?_ | refine wpList_eql 24 _ _ _ rfl (wn 1) (wn 1) rfl rfl rfl eqgW true E1.out ?_)
  go_ret
  exact ⟨rfl, K8.out⟩
end
end Go.Proofs.Ytmfpnlnhebjelaa
