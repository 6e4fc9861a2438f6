/- The walk of MsgSame. -/
import Derived.Test.YtiadfaipmpogbaaGreatPr
import Derived.Test.YtiadfaipmpogbaaGreatPm
import Derived.Test.YtiadfaipmpogbaaGreatPh
import Derived.Test.YtiadfaipmpogbaaGreatPz
namespace Go.Proofs.YtiadfaipmpogbaaGreat
open Go.RowKit
open Go.Deep
section
set_option maxRecDepth 10000
set_option maxHeartbeats 4000000
theorem msgSame_walk (w : World) (a : Mg) (sa : Vs) (ha : ML w sa a) (za : a.small) (_ : a.told) (b : Mg) (sb : Vs) (hb : ML w sb b) (zb : b.small) (_ : b.told) : Calls Tryz.prog 5 #[.agg (a.cells sa).toArray, .agg (b.cells sb).toArray] w fun e w' => e = .returned (.bool true) ∧ Below w.heap.size w w' := by
  have e1 := heap_alloc_last w (.cells (a.cells sa).toArray 38)
  have r1 := (Below.heap_alloc _ (.cells (b.cells sb).toArray 38) _ (lt_heap e1)).trans e1
  have r2 := heap_alloc_last (w.alloc (.cells (a.cells sa).toArray 38)) (.cells (b.cells sb).toArray 38)
  have hsz : (w.alloc (.cells (a.cells sa).toArray 38)).heap.size = w.heap.size + 1 := by simp
  rw [hsz] at r2
  have b0 : Below w.heap.size w ((w.alloc (.cells (a.cells sa).toArray 38)).alloc (.cells (b.cells sb).toArray 38)) := ((Below.refl _ _).alloc (Nat.le_refl _) _).alloc (by simp) _
  have HA := hide (ha.below b0)
  have HB := hide (hb.below b0)
  have B0 := hide b0
  have R1 := hide r1
  have R2 := hide r2
  have ZA := hide (a.size sa)
  have ZB := hide (b.size sb)
  have SA := hide za
  have SB := hide zb
  clear e1 r1 r2 b0 ha hb za zb
  go_enter Tryz.func5, Tryz.ntmps5
  go_upto_region 1 with (with_reducible refine at_list ?_; first | refine wpList_boxA rfl _ rfl (a.cells sa).toArray rfl ?_ | refine wpList_boxA rfl _ rfl (b.cells sb).toArray rfl ?_)
  try rw [hsz]
  clear hsz
  generalize (w.alloc (.cells (a.cells sa).toArray 38)).alloc (.cells (b.cells sb).toArray 38) = W0 at *
  have LA : Hid (∀ W, Below W0.heap.size W0 W → W.heap[w.heap.size]? = some (.cells (a.cells sa).toArray 38 (0, 0))) := fun W h => (h.block _ (lt_heap R1.out)).trans R1.out
  have LB : Hid (∀ W, Below W0.heap.size W0 W → W.heap[w.heap.size + 1]? = some (.cells (b.cells sb).toArray 38 (0, 0))) := fun W h => (h.block _ (lt_heap R2.out)).trans R2.out
  have CS : Hid (∀ W, Below W0.heap.size W0 W → Calls Tryz.prog 13 #[.agg (a.cells sa).toArray, .agg (b.cells sb).toArray] W fun e w' => e = .returned (.bool (decide (a = b))) ∧ Below W.heap.size W w') := fun W h => same_any a b sa sb W (HA.out.below h) (HB.out.below h) SA.out.fit
  have CA : Hid (∀ W, Below W0.heap.size W0 W → Calls Tryz.prog 9 #[.agg (a.cells sa).toArray] W fun e w' => ∃ so, e = .returned (.agg (a.cells so).toArray) ∧ MR w' so a ∧ Below W.heap.size W w') := fun W h => ref_any a sa W (HA.out.below h) SA.out
  have CB : Hid (∀ W, Below W0.heap.size W0 W → Calls Tryz.prog 9 #[.agg (b.cells sb).toArray] W fun e w' => ∃ so, e = .returned (.agg (b.cells so).toArray) ∧ MR w' so b ∧ Below W.heap.size W w') := fun W h => ref_any b sb W (HB.out.below h) SB.out
  have CR : Hid (∀ W soa sob, MR W soa a → MR W sob b → Calls Tryz.prog 15 #[.agg (a.cells soa).toArray, .agg (b.cells sob).toArray] W fun e w' => e = .returned (.bool (decide (a = b))) ∧ Below W.heap.size W w') := fun W soa sob h k => rsame_any a b soa sob W h k SA.out.fit
  clear HA HB SA SB R1 R2
  generalize decide (a = b) = d at *
  have BD := hide ((Below.refl W0.heap.size W0).drew)
  refine wp_region_held_drew (S := fun W => Below W0.heap.size W0 W) (by kernel_rfl) BD.out (fun hH => ?_)
  generalize hWd : W0.drew = W1 at *
  clear hWd
  refine wpAnyH_ready (rs := [0]) (by kernel_rfl) (by simp) (AllReadyH.cons rfl (fun K1 hK1 => ?_) AllReadyH.nil)
  go_simp
  refine (awake9 W1).mono ?_
  rintro e W2 ⟨rfl, be⟩
  have B2 := hide (below_next BD.out be)
  clear be
  refine hK1.out _ _ B2.out (fun hH => ?_)
  clear hK1
  refine wpAnyH_take (i := 1) (v := (.bool true)) rfl (by kernel_rfl) (by kernel_rfl) (by kernel_rfl) (fun _ _ _ h => h) (yl_move (by rfl) _ (by rfl) _ (by rfl)) hH ?_
  change wpAnyH _ _ _ _ _ _ _ (Act.put _ (some 6) _) _
  simp only [Act.put, List.setIfInBounds_toArray, List.set_cons_zero, List.set_cons_succ]
  refine wpAnyH_take (i := 2) (v := (.agg (a.cells sa).toArray)) rfl (by kernel_rfl) (by kernel_rfl) (by kernel_rfl) (fun _ _ _ h => h) (yl_load (by rfl) _ (by rfl) _ (a.cells sa).toArray (by rfl) (fun W hS => ld_row AM ZA.out (LA.out W hS))) hH ?_
  change wpAnyH _ _ _ _ _ _ _ (Act.put _ (some 7) _) _
  simp only [Act.put, List.setIfInBounds_toArray, List.set_cons_zero, List.set_cons_succ]
  refine wpAnyH_take (i := 3) (v := (.agg (b.cells sb).toArray)) rfl (by kernel_rfl) (by kernel_rfl) (by kernel_rfl) (fun _ _ _ h => h) (yl_load (by rfl) _ (by rfl) _ (b.cells sb).toArray (by rfl) (fun W hS => ld_row AM ZB.out (LB.out W hS))) hH ?_
  change wpAnyH _ _ _ _ _ _ _ (Act.put _ (some 8) _) _
  simp only [Act.put, List.setIfInBounds_toArray, List.set_cons_zero, List.set_cons_succ]
  refine wpAnyH_take (i := 5) (v := (.agg (a.cells sa).toArray)) rfl (by kernel_rfl) (by kernel_rfl) (by kernel_rfl) (fun _ _ _ h => h) (yl_load (by rfl) _ (by rfl) _ (a.cells sa).toArray (by rfl) (fun W hS => ld_row AM ZA.out (LA.out W hS))) hH ?_
  change wpAnyH _ _ _ _ _ _ _ (Act.put _ (some 10) _) _
  simp only [Act.put, List.setIfInBounds_toArray, List.set_cons_zero, List.set_cons_succ]
  refine wpAnyH_take (i := 7) (v := (.agg (b.cells sb).toArray)) rfl (by kernel_rfl) (by kernel_rfl) (by kernel_rfl) (fun _ _ _ h => h) (yl_load (by rfl) _ (by rfl) _ (b.cells sb).toArray (by rfl) (fun W hS => ld_row AM ZB.out (LB.out W hS))) hH ?_
  change wpAnyH _ _ _ _ _ _ _ (Act.put _ (some 12) _) _
  simp only [Act.put, List.setIfInBounds_toArray, List.set_cons_zero, List.set_cons_succ]
  refine wpAnyH_ready (rs := [4]) (by kernel_rfl) (by simp) (AllReadyH.cons rfl (fun K1 hK1 => ?_) AllReadyH.nil)
  go_simp
  refine (CS.out W2 B2.out).mono ?_
  rintro e W3 ⟨rfl, be⟩
  have B3 := hide (below_next B2.out be)
  clear be
  refine hK1.out _ _ B3.out (fun hH => ?_)
  clear hK1
  refine wpAnyH_ready (rs := [6]) (by kernel_rfl) (by simp) (AllReadyH.cons rfl (fun K1 hK1 => ?_) AllReadyH.nil)
  go_simp
  refine (CA.out W3 B3.out).mono ?_
  rintro e W4 ⟨soa, rfl, ma, be⟩
  have B4 := hide (below_next B3.out be)
  have MA := hide ma
  clear be ma
  refine hK1.out _ _ B4.out (fun hH => ?_)
  clear hK1
  refine wpAnyH_ready (rs := [8]) (by kernel_rfl) (by simp) (AllReadyH.cons rfl (fun K1 hK1 => ?_) AllReadyH.nil)
  go_simp
  refine (CB.out W4 B4.out).mono ?_
  rintro e W5 ⟨sob, rfl, mb, be⟩
  have B5 := hide (below_next B4.out be)
  have MB := hide mb
  have MA5 := hide (MA.out.below be)
  clear be mb
  refine hK1.out _ _ B5.out (fun hH => ?_)
  clear hK1
  refine wpAnyH_ready (rs := [9]) (by kernel_rfl) (by simp) (AllReadyH.cons rfl (fun K1 hK1 => ?_) AllReadyH.nil)
  go_simp
  refine (CR.out W5 soa sob MA5.out MB.out).mono ?_
  rintro e W6 ⟨rfl, be⟩
  have B6 := hide (below_next B5.out be)
  clear be
  refine hK1.out _ _ B6.out (fun hH => ?_)
  clear hK1
  refine wpAnyH_take (i := 10) (v := (.bool true)) rfl (by kernel_rfl) (by kernel_rfl) (by kernel_rfl) (fun _ _ _ h => h) (.inl ⟨by rfl, fun W _ => by cases d <;> go_simp⟩) hH ?_
  change wpAnyH _ _ _ _ _ _ _ (Act.put _ (some 15) _) _
  simp only [Act.put, List.setIfInBounds_toArray, List.set_cons_zero, List.set_cons_succ]
  refine wpAnyH_take (i := 11) (v := (.bool true)) rfl (by kernel_rfl) (by kernel_rfl) (by kernel_rfl) (fun _ _ _ h => h) (.inl ⟨by rfl, fun W _ => by go_simp⟩) hH ?_
  change wpAnyH _ _ _ _ _ _ _ (Act.put _ (some 16) _) _
  simp only [Act.put, List.setIfInBounds_toArray, List.set_cons_zero, List.set_cons_succ]
  refine wpAnyH_ready (rs := [12]) (by kernel_rfl) (by simp) (AllReadyH.cons rfl (fun K1 hK1 => ?_) AllReadyH.nil)
  go_simp
  refine hK1.out _ _ B6.out (fun hH => ?_)
  clear hK1
  refine wpAnyH_done (by kernel_rfl) ?_ _
  go_wp2
  go_ret
  exact ⟨rfl, below_next B0.out B6.out⟩
end
end Go.Proofs.YtiadfaipmpogbaaGreat
