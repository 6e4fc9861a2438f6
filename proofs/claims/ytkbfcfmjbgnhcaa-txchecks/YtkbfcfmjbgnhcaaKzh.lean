/- The walk of TxChecks. -/
import Derived.Test.YtkbfcfmjbgnhcaaKzg
import Derived.Test.YtkbfcfmjbgnhcaaKr
namespace Go.Proofs.Ytkbfcfmjbgnhcaa
open Go.RowKit
open Go.Deep
set_option linter.unusedVariables false
section
set_option maxRecDepth 10000
set_option maxHeartbeats 4000000
theorem txChecks_walk (w : World) (m : Tm) (ai : Option Addr) (ci : Nat) (ao : Option Addr) (co : Nat) (hm : LT w m ai ci ao co) (hf : m.fit) : Calls Try.prog 3 #[.agg (m.cells ai ci ao co)] w fun r w' => r = .returned (.bool true) ∧ Below w.heap.size w w' := by
  have b1 := (Below.refl w.heap.size w).alloc (Nat.le_refl _) (.cells (m.cells ai ci ao co) 26)
  have R1 := hide (heap_alloc_last w (.cells (m.cells ai ci ao co) 26))
  have HL := hide (hm.below b1)
  have B1 := hide b1
  have CZ : Hid ((m.cells ai ci ao co).size = 4) := rfl
  have HF := hide hf
  have HGv : Hid (∀ W, LT W m ai ci ao co → Calls Try.prog 4 #[.agg (m.cells ai ci ao co)] W fun e w' => ∃ (bi : Option Addr) (di : Nat) (bo : Option Addr) (d0 : Nat), e = .returned (.agg (m.cells bi di bo d0)) ∧ LR w' m bi di bo d0 ∧ Below W.heap.size W w') := fun W l => given_any m ai ci ao co W l HF.out
  have HP : Hid (∀ W, LT W m ai ci ao co → Calls Try.prog 5 #[.agg (m.cells ai ci ao co)] W fun e w' => e = .returned (.tuple #[.int .u64 (m.paid.1 : Int), .int .i64 m.paid.2]) ∧ Below W.heap.size W w') := fun W l => paid_any m ai ci ao co W l HF.out
  have HC : Hid (∀ W, LT W m ai ci ao co → Calls Try.prog 8 #[.agg (m.cells ai ci ao co)] W fun e w' => e = .returned (.int .i64 m.chk) ∧ Below W.heap.size W w') := fun W l => check_any m ai ci ao co W l HF.out
  have HB : Hid (∀ W, LT W m ai ci ao co → Calls Try.prog 10 #[.agg (m.cells ai ci ao co)] W fun e w' => e = .returned (.bool m.base) ∧ Below W.heap.size W w') := fun W l => base_any m ai ci ao co W l HF.out
  have HPr : Hid (∀ W bi di bo d0, LR W m bi di bo d0 → Calls Try.prog 6 #[.agg (m.cells bi di bo d0)] W fun e w' => e = .returned (.tuple #[.int .u64 (m.paid.1 : Int), .int .i64 m.paid.2]) ∧ Below W.heap.size W w') := fun W bi di bo d0 l => rpaid_any m bi di bo d0 W l HF.out
  have HCr : Hid (∀ W bi di bo d0, LR W m bi di bo d0 → Calls Try.prog 9 #[.agg (m.cells bi di bo d0)] W fun e w' => e = .returned (.int .i64 m.chk) ∧ Below W.heap.size W w') := fun W bi di bo d0 l => rcheck_any m bi di bo d0 W l HF.out
  have HBr : Hid (∀ W bi di bo d0, LR W m bi di bo d0 → Calls Try.prog 11 #[.agg (m.cells bi di bo d0)] W fun e w' => e = .returned (.bool m.base) ∧ Below W.heap.size W w') := fun W bi di bo d0 l => rbase_any m bi di bo d0 W l HF.out
  have cz : Hid (∀ bi di bo d0, (m.cells bi di bo d0).size = 4 ∧ (m.cells bi di bo d0).all (·.oneCell') = true) := fun bi di bo d0 => ⟨rfl, m.one bi di bo d0⟩
  clear b1 hm hf HF
  generalize m.cells ai ci ao co = CM at *
  generalize hCR : m.cells = CR at *
  generalize (m.paid.1 : Int) = P at *
  generalize m.paid.2 = E at *
  generalize m.chk = K at *
  generalize m.base = B at *
  go_enter Try.func3, Try.ntmps3
  go_upto_region 1 with ((with_reducible refine at_list ?_); refine wpList_boxA rfl _ rfl CM rfl ?_)
  generalize w.alloc (.cells CM 26) = W0 at *
  go_upto_region 2 with (first | (go_at_call 4; refine (HGv.out _ HL.out).mono ?_; rintro r W4 ⟨bi, di, bo, d0, rfl, lr, b1⟩; have D4 := hide b1; have LRR := hide lr; clear b1 lr) | ((with_reducible refine at_list ?_); first | refine wpList_loadS AT _ rfl w.heap.size rfl CM CZ.out 26 R1.out (by rfl) ?_ | refine wpList_allocA ATr rfl rfl ?_ | refine wpList_store_newA ATr rfl _ _ rfl _ rfl (CR bi di bo d0) (cz.out _ _ _ _).1 (cz.out _ _ _ _).2 rfl rfl ?_))
  have ba := (Below.refl W4.heap.size W4).alloc (Nat.le_refl _) (.cells (CR bi di bo d0) 30)
  have D5 := hide (below_next D4.out ba)
  have R7 := hide (heap_alloc_last W4 (.cells (CR bi di bo d0) 30))
  have L7 := hide (LRR.out.below ba)
  have R1' := hide ((D5.out.block _ (lt_heap R1.out)).trans R1.out)
  have RZ := hide (cz.out bi di bo d0).1
  have HPr2 := hide (fun W => HPr.out W bi di bo d0)
  have HCr2 := hide (fun W => HCr.out W bi di bo d0)
  have HBr2 := hide (fun W => HBr.out W bi di bo d0)
  have HL6 := hide (HL.out.below D5.out)
  have B6 := hide (below_next B1.out D5.out)
  clear ba D4 D5 LRR cz HPr HCr HBr HL HGv R1 B1
  generalize W4.alloc (.cells (CR bi di bo d0) 30) = V0 at *
  generalize W4.heap.size = g7 at *
  generalize CR bi di bo d0 = CX at *
  have RT : Hid (∀ W, Below V0.heap.size V0 W → W.heap[w.heap.size]? = some (.cells CM 26 (0, 0))) := fun W b => (b.block _ (lt_heap R1'.out)).trans R1'.out
  have RX : Hid (∀ W, Below V0.heap.size V0 W → W.heap[g7]? = some (.cells CX 30 (0, 0))) := fun W b => (b.block _ (lt_heap R7.out)).trans R7.out
  go_upto_region 3 with (first | (go_at_call 5; refine (HP.out _ HL6.out).mono ?_; rintro r V1 ⟨rfl, be⟩; have DV1 := hide be; clear be; have RX1 := hide (RX.out _ DV1.out)) | ((with_reducible refine at_list ?_); refine wpList_loadS AT _ rfl w.heap.size rfl CM CZ.out 26 R1'.out (by rfl) ?_))
  go_upto_region 4 with (first | (go_at_call 6; refine (HPr2.out _ (L7.out.below DV1.out)).mono ?_; rintro r V2 ⟨rfl, be⟩; have DV2 := hide (below_next DV1.out be); clear be) | ((with_reducible refine at_list ?_); refine wpList_loadS ATr _ rfl g7 rfl CX RZ.out 30 RX1.out (by rfl) ?_))
  have DV3 := hide (DV2.out.drew)
  clear RX1 DV1 DV2 HP HPr2
  refine wp_region_held_drew (S := fun W => Below V0.heap.size V0 W) (by kernel_rfl) DV3.out (fun hH => ?_)
  generalize V2.drew = V3 at *
  refine wpAnyH_ready (rs := [0]) (by kernel_rfl) (by simp) (AllReadyH.cons rfl (fun K1 hK1 => ?_) AllReadyH.nil)
  go_simp
  refine (awake10 V3).mono ?_
  rintro r V4 ⟨rfl, be⟩
  have DV4 := hide (below_next DV3.out be)
  clear be
  refine hK1.out _ _ DV4.out (fun hH => ?_)
  clear hK1
  have hq1 : (K == K) = true := by simp
  have hq2 : (P == P) = true := by simp
  have hq3 : (E == E) = true := by simp
  have hq4 : (B == B) = true := by simp
  refine wpAnyH_take (i := 1) (v := (.bool true)) rfl (by kernel_rfl) (by kernel_rfl) (by kernel_rfl) (fun _ _ _ h => h) (yl_move (by rfl) _ (by rfl) _ (by rfl)) hH ?_
  change wpAnyH _ _ _ _ _ _ _ (Act.put _ (some 21) _) _
  simp only [Act.put, List.setIfInBounds_toArray, List.set_cons_zero, List.set_cons_succ]
  refine wpAnyH_take (i := 2) (v := (.agg CM)) rfl (by kernel_rfl) (by kernel_rfl) (by kernel_rfl) (fun _ _ _ h => h) (yl_load (by rfl) _ (by rfl) _ CM (by rfl) (fun W hS => ld_row AT CZ.out (RT.out W hS))) hH ?_
  change wpAnyH _ _ _ _ _ _ _ (Act.put _ (some 22) _) _
  simp only [Act.put, List.setIfInBounds_toArray, List.set_cons_zero, List.set_cons_succ]
  refine wpAnyH_take (i := 4) (v := (.agg CX)) rfl (by kernel_rfl) (by kernel_rfl) (by kernel_rfl) (fun _ _ _ h => h) (yl_load (by rfl) _ (by rfl) _ CX (by rfl) (fun W hS => ld_row ATr RZ.out (RX.out W hS))) hH ?_
  change wpAnyH _ _ _ _ _ _ _ (Act.put _ (some 24) _) _
  simp only [Act.put, List.setIfInBounds_toArray, List.set_cons_zero, List.set_cons_succ]
  refine wpAnyH_ready (rs := [3]) (by kernel_rfl) (by simp) (AllReadyH.cons rfl (fun K1 hK1 => ?_) AllReadyH.nil)
  go_simp
  refine (HC.out V4 (HL6.out.below DV4.out)).mono ?_
  rintro r V5 ⟨rfl, be⟩
  have DV5 := hide (below_next DV4.out be)
  clear be
  refine hK1.out _ _ DV5.out (fun hH => ?_)
  clear hK1
  refine wpAnyH_ready (rs := [5]) (by kernel_rfl) (by simp) (AllReadyH.cons rfl (fun K1 hK1 => ?_) AllReadyH.nil)
  go_simp
  refine (HCr2.out V5 (L7.out.below DV5.out)).mono ?_
  rintro r V6 ⟨rfl, be⟩
  have DV6 := hide (below_next DV5.out be)
  clear be
  refine hK1.out _ _ DV6.out (fun hH => ?_)
  clear hK1
  refine wpAnyH_take (i := 6) (v := (.bool true)) rfl (by kernel_rfl) (by kernel_rfl) (by kernel_rfl) (fun _ _ _ h => h) (.inl ⟨by rfl, fun W _ => by go_simp⟩) hH ?_
  change wpAnyH _ _ _ _ _ _ _ (Act.put _ (some 26) _) _
  simp only [Act.put, List.setIfInBounds_toArray, List.set_cons_zero, List.set_cons_succ]
  refine wpAnyH_take (i := 7) (v := (.bool true)) rfl (by kernel_rfl) (by kernel_rfl) (by kernel_rfl) (fun _ _ _ h => h) (.inl ⟨by rfl, fun W _ => by go_simp⟩) hH ?_
  change wpAnyH _ _ _ _ _ _ _ (Act.put _ (some 27) _) _
  simp only [Act.put, List.setIfInBounds_toArray, List.set_cons_zero, List.set_cons_succ]
  refine wpAnyH_take (i := 8) (v := (.bool true)) rfl (by kernel_rfl) (by kernel_rfl) (by kernel_rfl) (fun _ _ _ h => h) (yl_move (by rfl) _ (by rfl) _ (by rfl)) hH ?_
  change wpAnyH _ _ _ _ _ _ _ (Act.put _ (some 28) _) _
  simp only [Act.put, List.setIfInBounds_toArray, List.set_cons_zero, List.set_cons_succ]
  refine wpAnyH_take (i := 9) (v := (.int .u64 P)) rfl (by kernel_rfl) (by kernel_rfl) (by kernel_rfl) (fun _ _ _ h => h) (yl_move (by rfl) _ (by rfl) _ (by rfl)) hH ?_
  change wpAnyH _ _ _ _ _ _ _ (Act.put _ (some 29) _) _
  simp only [Act.put, List.setIfInBounds_toArray, List.set_cons_zero, List.set_cons_succ]
  refine wpAnyH_take (i := 10) (v := (.int .u64 P)) rfl (by kernel_rfl) (by kernel_rfl) (by kernel_rfl) (fun _ _ _ h => h) (yl_move (by rfl) _ (by rfl) _ (by rfl)) hH ?_
  change wpAnyH _ _ _ _ _ _ _ (Act.put _ (some 30) _) _
  simp only [Act.put, List.setIfInBounds_toArray, List.set_cons_zero, List.set_cons_succ]
  refine wpAnyH_take (i := 11) (v := (.bool true)) rfl (by kernel_rfl) (by kernel_rfl) (by kernel_rfl) (fun _ _ _ h => h) (.inl ⟨by rfl, fun W _ => by go_simp⟩) hH ?_
  change wpAnyH _ _ _ _ _ _ _ (Act.put _ (some 31) _) _
  simp only [Act.put, List.setIfInBounds_toArray, List.set_cons_zero, List.set_cons_succ]
  refine wpAnyH_take (i := 12) (v := (.bool true)) rfl (by kernel_rfl) (by kernel_rfl) (by kernel_rfl) (fun _ _ _ h => h) (.inl ⟨by rfl, fun W _ => by go_simp⟩) hH ?_
  change wpAnyH _ _ _ _ _ _ _ (Act.put _ (some 32) _) _
  simp only [Act.put, List.setIfInBounds_toArray, List.set_cons_zero, List.set_cons_succ]
  refine wpAnyH_take (i := 13) (v := (.bool true)) rfl (by kernel_rfl) (by kernel_rfl) (by kernel_rfl) (fun _ _ _ h => h) (yl_move (by rfl) _ (by rfl) _ (by rfl)) hH ?_
  change wpAnyH _ _ _ _ _ _ _ (Act.put _ (some 33) _) _
  simp only [Act.put, List.setIfInBounds_toArray, List.set_cons_zero, List.set_cons_succ]
  refine wpAnyH_take (i := 14) (v := (.int .i64 E)) rfl (by kernel_rfl) (by kernel_rfl) (by kernel_rfl) (fun _ _ _ h => h) (yl_move (by rfl) _ (by rfl) _ (by rfl)) hH ?_
  change wpAnyH _ _ _ _ _ _ _ (Act.put _ (some 34) _) _
  simp only [Act.put, List.setIfInBounds_toArray, List.set_cons_zero, List.set_cons_succ]
  refine wpAnyH_take (i := 15) (v := (.int .i64 E)) rfl (by kernel_rfl) (by kernel_rfl) (by kernel_rfl) (fun _ _ _ h => h) (yl_move (by rfl) _ (by rfl) _ (by rfl)) hH ?_
  change wpAnyH _ _ _ _ _ _ _ (Act.put _ (some 35) _) _
  simp only [Act.put, List.setIfInBounds_toArray, List.set_cons_zero, List.set_cons_succ]
  refine wpAnyH_take (i := 16) (v := (.bool true)) rfl (by kernel_rfl) (by kernel_rfl) (by kernel_rfl) (fun _ _ _ h => h) (.inl ⟨by rfl, fun W _ => by go_simp⟩) hH ?_
  change wpAnyH _ _ _ _ _ _ _ (Act.put _ (some 36) _) _
  simp only [Act.put, List.setIfInBounds_toArray, List.set_cons_zero, List.set_cons_succ]
  refine wpAnyH_take (i := 17) (v := (.bool true)) rfl (by kernel_rfl) (by kernel_rfl) (by kernel_rfl) (fun _ _ _ h => h) (.inl ⟨by rfl, fun W _ => by go_simp⟩) hH ?_
  change wpAnyH _ _ _ _ _ _ _ (Act.put _ (some 37) _) _
  simp only [Act.put, List.setIfInBounds_toArray, List.set_cons_zero, List.set_cons_succ]
  refine wpAnyH_take (i := 18) (v := (.bool true)) rfl (by kernel_rfl) (by kernel_rfl) (by kernel_rfl) (fun _ _ _ h => h) (yl_move (by rfl) _ (by rfl) _ (by rfl)) hH ?_
  change wpAnyH _ _ _ _ _ _ _ (Act.put _ (some 38) _) _
  simp only [Act.put, List.setIfInBounds_toArray, List.set_cons_zero, List.set_cons_succ]
  refine wpAnyH_take (i := 19) (v := (.agg CM)) rfl (by kernel_rfl) (by kernel_rfl) (by kernel_rfl) (fun _ _ _ h => h) (yl_load (by rfl) _ (by rfl) _ CM (by rfl) (fun W hS => ld_row AT CZ.out (RT.out W hS))) hH ?_
  change wpAnyH _ _ _ _ _ _ _ (Act.put _ (some 39) _) _
  simp only [Act.put, List.setIfInBounds_toArray, List.set_cons_zero, List.set_cons_succ]
  refine wpAnyH_take (i := 21) (v := (.agg CX)) rfl (by kernel_rfl) (by kernel_rfl) (by kernel_rfl) (fun _ _ _ h => h) (yl_load (by rfl) _ (by rfl) _ CX (by rfl) (fun W hS => ld_row ATr RZ.out (RX.out W hS))) hH ?_
  change wpAnyH _ _ _ _ _ _ _ (Act.put _ (some 41) _) _
  simp only [Act.put, List.setIfInBounds_toArray, List.set_cons_zero, List.set_cons_succ]
  refine wpAnyH_ready (rs := [20]) (by kernel_rfl) (by simp) (AllReadyH.cons rfl (fun K1 hK1 => ?_) AllReadyH.nil)
  go_simp
  refine (HB.out V6 (HL6.out.below DV6.out)).mono ?_
  rintro r V7 ⟨rfl, be⟩
  have DV7 := hide (below_next DV6.out be)
  clear be
  refine hK1.out _ _ DV7.out (fun hH => ?_)
  clear hK1
  refine wpAnyH_ready (rs := [22]) (by kernel_rfl) (by simp) (AllReadyH.cons rfl (fun K1 hK1 => ?_) AllReadyH.nil)
  go_simp
  refine (HBr2.out V7 (L7.out.below DV7.out)).mono ?_
  rintro r V8 ⟨rfl, be⟩
  have DV8 := hide (below_next DV7.out be)
  clear be
  refine hK1.out _ _ DV8.out (fun hH => ?_)
  clear hK1
  refine wpAnyH_take (i := 23) (v := (.bool true)) rfl (by kernel_rfl) (by kernel_rfl) (by kernel_rfl) (fun _ _ _ h => h) (.inl ⟨by rfl, fun W _ => by go_simp⟩) hH ?_
  change wpAnyH _ _ _ _ _ _ _ (Act.put _ (some 43) _) _
  simp only [Act.put, List.setIfInBounds_toArray, List.set_cons_zero, List.set_cons_succ]
  refine wpAnyH_take (i := 24) (v := (.bool true)) rfl (by kernel_rfl) (by kernel_rfl) (by kernel_rfl) (fun _ _ _ h => h) (.inl ⟨by rfl, fun W _ => by go_simp⟩) hH ?_
  change wpAnyH _ _ _ _ _ _ _ (Act.put _ (some 44) _) _
  simp only [Act.put, List.setIfInBounds_toArray, List.set_cons_zero, List.set_cons_succ]
  refine wpAnyH_take (i := 25) (v := (.bool true)) rfl (by kernel_rfl) (by kernel_rfl) (by kernel_rfl) (fun _ _ _ h => h) (.inl ⟨by rfl, fun W _ => by go_simp⟩) hH ?_
  change wpAnyH _ _ _ _ _ _ _ (Act.put _ (some 2) _) _
  simp only [Act.put, List.setIfInBounds_toArray, List.set_cons_zero, List.set_cons_succ]
  refine wpAnyH_done (by kernel_rfl) ?_ _
  clear hH
  go_wp2
  go_ret
  exact ⟨rfl, below_next B6.out DV8.out⟩
end
end Go.Proofs.Ytkbfcfmjbgnhcaa
