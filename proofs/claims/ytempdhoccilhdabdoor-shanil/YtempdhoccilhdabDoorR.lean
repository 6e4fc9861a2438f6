/- The law ShaNil: its walk. -/
import Derived.Test.YtempdhoccilhdabDoorO0
namespace Go.Proofs.YtempdhoccilhdabDoor
open Go.RowKit
open Go.Deep
/-- What is known of the world in ShaNil: where the state lies. -/
structure Jn (w W : World) (g : Nat) : Prop where
  a : W.heap[g]? = some (.cells (uc first.list) 26 (0, 0))
  below : Below w.heap.size w W
  kg : Kg W
theorem Jn.next {w W W' : World} {g : Nat} (j : Jn w W g) (h : Below W.heap.size W W') : Jn w W' g :=
  ⟨(h.block _ (lt_heap j.a)).trans j.a, j.below.trans (h.mono j.below.size), j.kg.next h⟩
attribute [local go_sem ↓] ld31_eq
section
set_option maxRecDepth 10000
set_option maxHeartbeats 4000000
theorem shaNil_walk (s : ByteArray) (_hs : s.size < 2305843009213693000) (w : World) (hK : Kg w) : Calls Tryd.prog 3 #[.string s] w fun e w' => e = .returned (.bool true) ∧ Below w.heap.size w w' := by
  have HA := hide fun W hW => awake_any W hW
  have HW := hide fun W => write_nil s W
  have HS := hide fun W => state_nil W
  have HL := hide fun W => len_nil W
  have HC := hide fun W => clone_nil W
  have HF := hide fun W => rfirst_any W
  have H22 := hide fun W hW => hsum_nil W hW
  have H11 := hide fun W => rsum_any ⟨#[]⟩ (by decide) W
  rw [show (⟨#[]⟩ : ByteArray).data.toList = [] from rfl] at H11
  have e1 := hide fun W => eqb 33 32 Tryd.underlying33 (digest []) (digest_len _) W
  have e3 := hide fun W => eq31 first W
  generalize digest [] = D at *
  have HK := hide hK
  clear hK
  go_enter Tryd.func3, Tryd.ntmps3
  go_upto_region 4 with (first | (go_at_call 4; refine (HW.out _).mono ?_; rintro e w1 ⟨rfl, rfl⟩) | (go_at_call 5; refine (HS.out _).mono ?_; rintro e w2 ⟨rfl, b2⟩; have B2 := hide (b2.alloc b2.size (.cells (uc first.list) 26)); clear b2) | refine wpList_allocA A31 rfl rfl ?_ | refine wpList_store_newA A31 rfl _ _ rfl _ rfl (uc first.list) rfl (uc_one _) rfl rfl ?_)
  have J : Hid (Jn w1 (w2.alloc (.cells (uc first.list) 26)).drew w2.heap.size) := ⟨heap_alloc_last _ _, B2.out.drew, HK.out.next B2.out.drew⟩
  clear B2
  obtain ⟨I, hne, F, i0, h0, hJ, hcl⟩ : ∃ (I : Type) (_ : Nonempty I) (F : I → World) (i0 : I), (w2.alloc (.cells (uc first.list) 26)).drew = F i0 ∧ Hid (∀ i, Jn w1 (F i) w2.heap.size) ∧ Hid (∀ i W', Below (F i).heap.size (F i) W' → ∃ j, W' = F j) :=
    ⟨{W : World // Jn w1 W w2.heap.size}, ⟨⟨_, J.out⟩⟩, Subtype.val, ⟨_, J.out⟩, rfl, fun i => i.2, fun i W' b => ⟨⟨W', i.2.next b⟩, rfl⟩⟩
  have l1 : ∀ i, (ld31 (.pointer (some ⟨w2.heap.size, 0, none⟩))).run Tryd.prog (F i) = .ok (.agg (uc first.list)) (F i) := fun i => ld_row A31 rfl (hJ.out i).a
  clear J
  generalize uc first.list = FC at *
  refine wp_region_class_lit (by kernel_rfl) (by kernel_rfl) i0 h0 ?_
  repeat (first | (go_big_quiet_want; refine quiet_eql 33 _ _ _ (by rfl) (hc D) (hc D) (by rfl) (by rfl) eqg25 true e1.out ?_; go_big_quiet_on; simp only [Act.put, List.setIfInBounds_toArray, List.set_cons_succ, List.set_cons_zero]) | (go_big_quiet_want; refine quiet_eql 26 _ _ _ (by rfl) FC FC (by rfl) (by rfl) eqg31 true e3.out ?_; go_big_quiet_on; simp only [Act.put, List.setIfInBounds_toArray, List.set_cons_succ, List.set_cons_zero]) | go_big_quiet_step (first | (go_at_call 6; exact class_of hcl.out (HA.out _ (hJ.out _).kg)) | (go_at_call 7; exact class_of_same (HL.out _)) | (go_at_call 8; exact class_of hcl.out (H22.out _ (hJ.out _).kg)) | (go_at_call 9; exact class_of hcl.out (H11.out _)) | (go_at_call 10; exact class_of hcl.out (HF.out _)) | (go_at_call 11; exact class_of_same (HC.out _))))
  refine wpQuiet_nil ?_
  rintro _ ⟨iq, rfl⟩
  go_wp2
  go_ret
  exact ⟨rfl, (hJ.out iq).below⟩
end
end Go.Proofs.YtempdhoccilhdabDoor
