/- Streams: the contract of stands; the parts that come in. -/
import Derived.Test.YtjcfojedahgfpaaGreatDoorFx
namespace Go.Proofs.YtjcfojedahgfpaaGreatDoor
open Go.RowKit
open Go.Deep
/-- What stands holds: the stream, and the document's at block g. -/
structure Jt (Q : List (Nat × Obj)) (B W0 W : World) (b : Nat) (v : Value) (x : Sq) (g : Nat) : Prop where
  sm : Sm Q B W b v x
  row : W.heap[g]? = some (.cells (m4 x) 28 (0, 0))
  bel : Below W0.heap.size W0 W
theorem Jt.next {Q : List (Nat × Obj)} {B W0 W W' : World} {b : Nat} {v : Value} {x : Sq} {g : Nat} (h : Jt Q B W0 W b v x g) (k : Below W.heap.size W W') : Jt Q B W0 W' b v x g :=
  ⟨h.sm.next k, (k.block _ (lt_heap h.row)).trans h.row, below_next h.bel k⟩
section
set_option maxRecDepth 10000
set_option maxHeartbeats 4000000
theorem stands_any {Q : List (Nat × Obj)} {B W : World} {b : Nat} {v : Value} {x : Sq} (h : Sm Q B W b v x) : Calls Tryz.prog 8 #[.pointer (some ⟨b, 0, none⟩), .agg (m4 x)] W fun e w' => e = .returned (.bool true) ∧ Below W.heap.size W w' := by
  have b1 : Below W.heap.size W (W.alloc (.cells (m4 x) 28)) := (Below.refl _ _).alloc (Nat.le_refl _) _
  have J : Hid (Jt Q B W (W.alloc (.cells (m4 x) 28)) b v x W.heap.size) := ⟨h.next b1, heap_alloc_last _ _, b1⟩
  have HN := hide fun W => rneed_any x h.mag h.long W
  have hz : (txt x.held).size = x.held.length := txt_size _
  clear b1 h
  go_enter Tryz.func8, Tryz.ntmps8
  go_upto_region 1 with (refine wpList_boxA rfl _ rfl (m4 x) rfl ?_)
  generalize W.alloc (.cells (m4 x) 28) = W1 at *
  generalize hgm : W.heap.size = gm at *
  obtain ⟨I, hne, F, i0, h0, hJ, hcl⟩ : ∃ (I : Type) (_ : Nonempty I) (F : I → World) (i0 : I), W1.drew = F i0 ∧ Hid (∀ i, Jt Q B W (F i) b v x gm) ∧ Hid (∀ i W', Below (F i).heap.size (F i) W' → ∃ j, W' = F j) :=
    ⟨{W' : World // Jt Q B W W' b v x gm}, ⟨⟨_, J.out⟩⟩, Subtype.val, ⟨_, J.out.next (below_drew (Below.refl _ _))⟩, rfl, fun i => i.2, fun i W' b => ⟨⟨W', i.2.next b⟩, rfl⟩⟩
  have l0 : ∀ i, (F i).cell? ⟨gm, 0, none⟩ = some (.int .u32 (x.magic : Int)) := fun i => (m4_cells (hJ.out i).row).1
  have l1 : ∀ i, (F i).cell? ⟨gm, 1, none⟩ = some (.string (txt x.held)) := fun i => (m4_cells (hJ.out i).row).2.1
  have l2 : ∀ i, (F i).cell? ⟨gm, 2, none⟩ = some (.int .i64 x.broken) := fun i => (m4_cells (hJ.out i).row).2.2.1
  have l3 : ∀ i, (F i).cell? ⟨gm, 3, none⟩ = some (.int .i64 x.taken) := fun i => (m4_cells (hJ.out i).row).2.2.2
  clear J
  refine wp_region_class_lit (by kernel_rfl) (by kernel_rfl) i0 h0 ?_
  repeat (go_big_quiet_step (first | (go_at_call 14; exact class_of_same (held_any (hJ.out _).sm)) | (go_at_call 15; exact class_of hcl.out (need_any (hJ.out _).sm)) | (go_at_call 16; exact class_of hcl.out (HN.out _)) | (go_at_call 13; exact class_of_same (broken_any (hJ.out _).sm)) | (go_at_call 17; exact class_of_same (taken_any (hJ.out _).sm))))
  refine wpQuiet_nil ?_
  rintro _ ⟨iq, rfl⟩
  go_wp2
  go_ret
  exact ⟨rfl, (hJ.out iq).bel⟩
end
end Go.Proofs.YtjcfojedahgfpaaGreatDoor
