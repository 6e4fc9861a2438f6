/- The law WideRoots: its walk. -/
import Derived.Test.YtmgoecgpdceppaaZg
import Derived.Test.YtmgoecgpdceppaaWl
namespace Go.Proofs.Ytmgoecgpdceppaa
open Go.RowKit
open Go.Deep
/-- One row, and a world beside it. -/
def Jo (w W : World) (t : TypeId) (m : Nat) : Prop := W.heap[w.heap.size]? = some (.cells (wn m) t (0, 0)) ∧ Below w.heap.size w W
theorem Jo.next {w W W' : World} {t : TypeId} {m : Nat} (j : Jo w W t m) (h : Below W.heap.size W W') : Jo w W' t m := ⟨(h.block _ (lt_heap j.1)).trans j.1, below_next j.2 h⟩
theorem Jo.drew {w W : World} {t : TypeId} {m : Nat} (j : Jo w W t m) : Jo w W.drew t m := ⟨j.1, j.2.drew⟩
theorem rt_M (m : Nat) (hm : m < M) : rt m < M := Nat.lt_trans (rt_128 m hm) (by decide)
section
set_option maxRecDepth 10000
set_option maxHeartbeats 2000000
theorem wideRoots_walk (m : Nat) (hm : m < M) (w : World) : Calls Try.prog 7 #[.agg (wn m)] w fun e w' => e = .returned (.bool true) ∧ Below w.heap.size w w' := by
  have HAw := hide fun W => awake_any W
  have H1 := hide fun W => root_any m hm W
  have H2 := hide fun W => rroot_any m hm W
  have hX := rt_M m hm
  have J0 : Hid (Jo w (w.alloc (.cells (wn m) 24)) 24 m) := ⟨heap_alloc_last w _, (Below.refl _ _).alloc (Nat.le_refl _) _⟩
  have eX := hide fun W => eqW (rt m) (rt m) hX hX W
  rw [show decide (rt m = rt m) = true by simp] at eX
  generalize rt m = X at *
  clear hm hX
  go_enter Try.func7, Try.ntmps7
  go_upto_region 1 with (refine wpList_boxA rfl _ rfl (wn m) rfl ?_)
  generalize w.alloc (.cells (wn m) 24) = W0 at *
  obtain ⟨I, hne, F, i0, h0, hJ, hcl⟩ : ∃ (I : Type) (_ : Nonempty I) (F : I → World) (i0 : I), W0.drew = F i0 ∧ Hid (∀ i, Jo w (F i) 24 m) ∧ Hid (∀ i W', Below (F i).heap.size (F i) W' → ∃ j, W' = F j) :=
    ⟨{W : World // Jo w W 24 m}, ⟨⟨_, J0.out⟩⟩, Subtype.val, ⟨W0.drew, J0.out.drew⟩, rfl, fun i => i.2, fun i W' b => ⟨⟨W', i.2.next b⟩, rfl⟩⟩
  refine wp_region_class_lit (by kernel_rfl) (by kernel_rfl) i0 h0 ?_
  repeat (first | ((go_big_quiet_want; first | refine quiet_loadA AW _ (by rfl) _ (by rfl) (wn m) (wn_size _) 24 (fun W hC => by obtain ⟨i, rfl⟩ := hC; exact (hJ.out i).1) ?_ | refine quiet_eql 24 _ _ _ (by rfl) (wn X) (wn X) (by rfl) (by rfl) eqgW true eX.out ?_); go_big_quiet_on; simp only [Act.put, List.setIfInBounds_toArray, List.set_cons_succ, List.set_cons_zero]) | go_big_quiet_step (first | (go_at_call 9; exact class_of hcl.out (HAw.out _)) | (go_at_call 43; exact class_of hcl.out (H1.out _)) | (go_at_call 44; exact class_of hcl.out (H2.out _))))
  refine wpQuiet_nil ?_
  rintro _ ⟨iq, rfl⟩
  go_wp2
  go_ret
  exact ⟨rfl, (hJ.out iq).2⟩
end
end Go.Proofs.Ytmgoecgpdceppaa
