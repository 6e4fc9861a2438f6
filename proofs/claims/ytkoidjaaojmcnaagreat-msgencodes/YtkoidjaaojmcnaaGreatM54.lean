/- The walk of MsgEncodes. -/
import Derived.Test.YtkoidjaaojmcnaaGreatM52
import Derived.Test.YtkoidjaaojmcnaaGreatM39
import Derived.Test.YtkoidjaaojmcnaaGreatM26
import Derived.Test.YtkoidjaaojmcnaaGreatM53
import Derived.Test.YtkoidjaaojmcnaaGreatM34
import Derived.Test.YtkoidjaaojmcnaaGreatM36
namespace Go.Proofs.YtkoidjaaojmcnaaGreat
open Go.RowKit
open Go.Deep
set_option linter.unusedVariables false
section
set_option maxRecDepth 10000
set_option maxHeartbeats 8000000
theorem msgEncodes_walk (w : World) (m : Mg) (s : Vs) (hm : ML w s m) (hz : m.small) (ht : m.told) : Calls Tryz.prog 3 #[.agg (m.cells s).toArray] w fun e w' => e = .returned (.bool true) ∧ Below w.heap.size w w' := by
  have r1 := heap_alloc_last w (.cells (m.cells s).toArray 38)
  have b1 := (Below.refl w.heap.size w).alloc (Nat.le_refl _) (.cells (m.cells s).toArray 38)
  have B1 := hide b1
  have m1 := hm.below b1
  have ft := hz.fit
  have ZC := hide (m.size s)
  have CK : Hid (∀ W : World, W.heap[w.heap.size]? = some (.cells (m.cells s).toArray 38 (0, 0)) → W.cell? ⟨w.heap.size, 0, none⟩ = some (.int .i64 m.kind)) := fun W e => (Mc.of (m := m) (s := s) e).f0
  generalize hA : w.alloc (.cells (m.cells s).toArray 38) = A at *
  have X1 : Hid (∀ W, Below A.heap.size A W → W.heap[w.heap.size]? = some (.cells (m.cells s).toArray 38 (0, 0))) := fun W b => (b.block _ (lt_heap r1)).trans r1
  have HE : Hid (∀ W, Below A.heap.size A W → Calls Tryz.prog 4 #[.agg (m.cells s).toArray] W fun e w' => e = .returned (.tuple #[.string (txt m.encL), .int .i64 m.encE]) ∧ Below W.heap.size W w') := fun W b => encode_any m s W (m1.below b) ft ht.rawW
  have HR : Hid (∀ W, Below A.heap.size A W → Calls Tryz.prog 6 #[.agg (m.cells s).toArray] W fun e w' => ∃ so, e = .returned (.agg (m.cells so).toArray) ∧ MR w' so m ∧ Below W.heap.size W w') := fun W b => ref_any m s W (m1.below b) hz
  have HRE : Hid (∀ W so, MR W so m → Calls Tryz.prog 5 #[.agg (m.cells so).toArray] W fun e w' => e = .returned (.tuple #[.string (txt m.encL), .int .i64 m.encE]) ∧ Below W.heap.size W w') := fun W so h => rencode_any m so W h ft ht.rawW
  have HC : Hid (∀ W, Below A.heap.size A W → Calls Tryz.prog 8 #[.agg (m.cells s).toArray] W fun e w' => e = .returned (.int .i64 m.costZ) ∧ Below W.heap.size W w') := fun W b => cost_any m s W (m1.below b) ft
  have HRC : Hid (∀ W so, MR W so m → Calls Tryz.prog 9 #[.agg (m.cells so).toArray] W fun e w' => e = .returned (.int .i64 m.costZ) ∧ Below W.heap.size W w') := fun W so h => rcost_any m so W h ft
  have HS : Hid (∀ W, Below A.heap.size A W → Calls Tryz.prog 10 #[.agg (m.cells s).toArray, .agg (m.cells s).toArray] W fun e w' => e = .returned (.bool true) ∧ Below W.heap.size W w') := fun W b => by
    have := same_any m m s s W (m1.below b) (m1.below b) ft
    rw [decide_eq_true rfl] at this
    exact this
  have HS2 : Hid (∀ W v, Below A.heap.size A W → ML W v m → Calls Tryz.prog 10 #[.agg (m.cells v).toArray, .agg (m.cells s).toArray] W fun e w' => e = .returned (.bool true) ∧ Below W.heap.size W w') := fun W v b h => by
    have := same_any m m v s W h (m1.below b) ft
    rw [decide_eq_true rfl] at this
    exact this
  have HR2 : Hid (∀ W v, ML W v m → Calls Tryz.prog 6 #[.agg (m.cells v).toArray] W fun e w' => ∃ so, e = .returned (.agg (m.cells so).toArray) ∧ MR w' so m ∧ Below W.heap.size W w') := fun W v h => ref_any m v W h hz
  have HRS : Hid (∀ W so sp, MR W so m → MR W sp m → Calls Tryz.prog 12 #[.agg (m.cells so).toArray, .agg (m.cells sp).toArray] W fun e w' => e = .returned (.bool true) ∧ Below W.heap.size W w') := fun W so sp h k => by
    have := rsame_any m m so sp W h k ft
    rw [decide_eq_true rfl] at this
    exact this
  have HD : Hid (m.encE = 0 → ∀ W, Calls Tryz.prog 11 #[.int .i64 m.kind, .string (txt m.encL)] W fun e w' => ∃ v', e = .returned (.tuple #[.agg (m.cells v').toArray, .int .i64 0, .int .i64 0]) ∧ ML w' v' m ∧ Below W.heap.size W w') := fun he W => decode_on m he ht.time (txt m.encL) (by unfold Mg.encL; rw [if_pos he]; rfl) W
  have ON : Hid (∀ v, ML A v m → True) := fun _ _ => trivial
  have OV : Hid (∀ (W : World) (v : Vs), ML W v m → (m.cells v).toArray.all (·.oneCell') = true ∧ (m.cells v).toArray.size = 121) := fun W v h => ⟨m.one v h.ok, m.size v⟩
  clear r1 b1 m1 hm hz ht ft ON
  generalize hC : (m.cells s).toArray = C at *
  clear hC
  generalize txt m.encL = TX at *
  generalize m.encE = E at *
  generalize m.costZ = Z at *
  generalize m.kind = kd at *
  go_enter Tryz.func3, Tryz.ntmps3
  go_upto_region 1 with ((with_reducible refine at_list ?_); refine wpList_boxA rfl _ rfl C rfl ?_)
  try rw [hA]
  clear hA
  have Q1 := hide (X1.out A (Below.refl _ _))
  go_upto_region 2 with (first | (go_at_call 4; refine (HE.out _ (Below.refl _ _)).mono ?_; rintro r V1 ⟨rfl, be⟩; have D1 := hide be; clear be) | ((with_reducible refine at_list ?_); refine wpList_loadS AM _ rfl w.heap.size rfl C ZC.out 38 Q1.out (by rfl) ?_))
  have Q2 := hide (X1.out _ D1.out)
  go_upto_region 3 with (first | (go_at_call 6; refine (HR.out _ D1.out).mono ?_; rintro r V2 ⟨so, rfl, mr, be⟩; have D2 := hide (below_next D1.out be); have M2 := hide mr; clear be mr) | (go_at_call 5; refine (HRE.out _ _ M2.out).mono ?_; rintro r V3 ⟨rfl, be⟩; have D3 := hide (below_next D2.out be); clear be) | ((with_reducible refine at_list ?_); refine wpList_loadS AM _ rfl w.heap.size rfl C ZC.out 38 Q2.out (by rfl) ?_))
  clear Q1 Q2 D1 D2 M2 HE HRE
  have DV4 := hide (D3.out.drew)
  refine wp_region_held_drew (S := fun W => Below A.heap.size A W) (by kernel_rfl) DV4.out (fun hH => ?_)
  generalize V3.drew = V4 at *
  clear D3
  have ht2 : (E == E) = true := by simp
  have ht3 : (E != E) = false := by simp
  have hz2 : (Z == Z) = true := by simp
  have hz3 : (Z != Z) = false := by simp
  have htt : (TX.toList == TX.toList) = true := by simp
  refine wpAnyH_ready (rs := [0]) (by kernel_rfl) (by simp) (AllReadyH.cons rfl (fun K1 hK1 => ?_) AllReadyH.nil)
  go_simp
  refine (awake9 V4).mono ?_
  rintro r V5 ⟨rfl, be⟩
  have DV5 := hide (below_next DV4.out be)
  clear be
  refine hK1.out _ _ DV5.out (fun hH => ?_)
  clear hK1
  refine wpAnyH_take (i := 1) (v := (.bool false)) rfl (by kernel_rfl) (by kernel_rfl) (by kernel_rfl) (fun _ _ _ h => h) (.inl ⟨by rfl, fun W _ => by go_simp⟩) hH ?_
  change wpAnyH _ _ _ _ _ _ _ (Act.put _ (some 22) _) _
  simp only [Act.put, List.setIfInBounds_toArray, List.set_cons_zero, List.set_cons_succ]
  refine wpAnyH_take (i := 2) (v := (.bool false)) rfl (by kernel_rfl) (by kernel_rfl) (by kernel_rfl) (fun _ _ _ h => h) (yl_move (by rfl) _ (by rfl) _ (by rfl)) hH ?_
  change wpAnyH _ _ _ _ _ _ _ (Act.put _ (some 23) _) _
  simp only [Act.put, List.setIfInBounds_toArray, List.set_cons_zero, List.set_cons_succ]
  refine wpAnyH_take (i := 3) (v := (.string TX)) rfl (by kernel_rfl) (by kernel_rfl) (by kernel_rfl) (fun _ _ _ h => h) (yl_move (by rfl) _ (by rfl) _ (by rfl)) hH ?_
  change wpAnyH _ _ _ _ _ _ _ (Act.put _ (some 24) _) _
  simp only [Act.put, List.setIfInBounds_toArray, List.set_cons_zero, List.set_cons_succ]
  refine wpAnyH_take (i := 4) (v := (.string TX)) rfl (by kernel_rfl) (by kernel_rfl) (by kernel_rfl) (fun _ _ _ h => h) (yl_move (by rfl) _ (by rfl) _ (by rfl)) hH ?_
  change wpAnyH _ _ _ _ _ _ _ (Act.put _ (some 25) _) _
  simp only [Act.put, List.setIfInBounds_toArray, List.set_cons_zero, List.set_cons_succ]
  refine wpAnyH_take (i := 5) (v := (.bool false)) rfl (by kernel_rfl) (by kernel_rfl) (by kernel_rfl) (fun _ _ _ h => h) (.inl ⟨by rfl, fun W _ => by go_simp⟩) hH ?_
  change wpAnyH _ _ _ _ _ _ _ (Act.put _ (some 26) _) _
  simp only [Act.put, List.setIfInBounds_toArray, List.set_cons_zero, List.set_cons_succ]
  refine wpAnyH_take (i := 6) (v := (.bool false)) rfl (by kernel_rfl) (by kernel_rfl) (by kernel_rfl) (fun _ _ _ h => h) (.inl ⟨by rfl, fun W _ => by go_simp⟩) hH ?_
  change wpAnyH _ _ _ _ _ _ _ (Act.put _ (some 27) _) _
  simp only [Act.put, List.setIfInBounds_toArray, List.set_cons_zero, List.set_cons_succ]
  refine wpAnyH_take (i := 7) (v := (.bool false)) rfl (by kernel_rfl) (by kernel_rfl) (by kernel_rfl) (fun _ _ _ h => h) (yl_move (by rfl) _ (by rfl) _ (by rfl)) hH ?_
  change wpAnyH _ _ _ _ _ _ _ (Act.put _ (some 28) _) _
  simp only [Act.put, List.setIfInBounds_toArray, List.set_cons_zero, List.set_cons_succ]
  refine wpAnyH_take (i := 8) (v := (.int .i64 E)) rfl (by kernel_rfl) (by kernel_rfl) (by kernel_rfl) (fun _ _ _ h => h) (yl_move (by rfl) _ (by rfl) _ (by rfl)) hH ?_
  change wpAnyH _ _ _ _ _ _ _ (Act.put _ (some 29) _) _
  simp only [Act.put, List.setIfInBounds_toArray, List.set_cons_zero, List.set_cons_succ]
  refine wpAnyH_take (i := 9) (v := (.int .i64 E)) rfl (by kernel_rfl) (by kernel_rfl) (by kernel_rfl) (fun _ _ _ h => h) (yl_move (by rfl) _ (by rfl) _ (by rfl)) hH ?_
  change wpAnyH _ _ _ _ _ _ _ (Act.put _ (some 30) _) _
  simp only [Act.put, List.setIfInBounds_toArray, List.set_cons_zero, List.set_cons_succ]
  refine wpAnyH_take (i := 10) (v := (.bool false)) rfl (by kernel_rfl) (by kernel_rfl) (by kernel_rfl) (fun _ _ _ h => h) (.inl ⟨by rfl, fun W _ => by go_simp⟩) hH ?_
  change wpAnyH _ _ _ _ _ _ _ (Act.put _ (some 31) _) _
  simp only [Act.put, List.setIfInBounds_toArray, List.set_cons_zero, List.set_cons_succ]
  refine wpAnyH_take (i := 11) (v := (.bool false)) rfl (by kernel_rfl) (by kernel_rfl) (by kernel_rfl) (fun _ _ _ h => h) (.inl ⟨by rfl, fun W _ => by go_simp⟩) hH ?_
  change wpAnyH _ _ _ _ _ _ _ (Act.put _ (some 32) _) _
  simp only [Act.put, List.setIfInBounds_toArray, List.set_cons_zero, List.set_cons_succ]
  refine wpAnyH_take (i := 12) (v := (.bool false)) rfl (by kernel_rfl) (by kernel_rfl) (by kernel_rfl) (fun _ _ _ h => h) (yl_move (by rfl) _ (by rfl) _ (by rfl)) hH ?_
  change wpAnyH _ _ _ _ _ _ _ (Act.put _ (some 33) _) _
  simp only [Act.put, List.setIfInBounds_toArray, List.set_cons_zero, List.set_cons_succ]
  refine wpAnyH_take (i := 13) (v := (.agg C)) rfl (by kernel_rfl) (by kernel_rfl) (by kernel_rfl) (fun _ _ _ h => h) (yl_load (by rfl) _ (by rfl) _ C (by rfl) (fun W hS => ld_row AM ZC.out (X1.out W hS))) hH ?_
  change wpAnyH _ _ _ _ _ _ _ (Act.put _ (some 34) _) _
  simp only [Act.put, List.setIfInBounds_toArray, List.set_cons_zero, List.set_cons_succ]
  refine wpAnyH_take (i := 15) (v := (.agg C)) rfl (by kernel_rfl) (by kernel_rfl) (by kernel_rfl) (fun _ _ _ h => h) (yl_load (by rfl) _ (by rfl) _ C (by rfl) (fun W hS => ld_row AM ZC.out (X1.out W hS))) hH ?_
  change wpAnyH _ _ _ _ _ _ _ (Act.put _ (some 36) _) _
  simp only [Act.put, List.setIfInBounds_toArray, List.set_cons_zero, List.set_cons_succ]
  refine wpAnyH_ready (rs := [14]) (by kernel_rfl) (by simp) (AllReadyH.cons rfl (fun K1 hK1 => ?_) AllReadyH.nil)
  go_simp
  refine (HC.out V5 DV5.out).mono ?_
  rintro r V6 ⟨rfl, be⟩
  have DV6 := hide (below_next DV5.out be)
  clear be
  refine hK1.out _ _ DV6.out (fun hH => ?_)
  clear hK1
  refine wpAnyH_ready (rs := [16]) (by kernel_rfl) (by simp) (AllReadyH.cons rfl (fun K1 hK1 => ?_) AllReadyH.nil)
  go_simp
  refine (HR.out V6 DV6.out).mono ?_
  rintro r V7 ⟨so, rfl, mr, be⟩
  have DV7 := hide (below_next DV6.out be)
  have M7 := hide mr
  clear mr
  clear be
  refine hK1.out _ _ DV7.out (fun hH => ?_)
  clear hK1
  refine wpAnyH_ready (rs := [17]) (by kernel_rfl) (by simp) (AllReadyH.cons rfl (fun K1 hK1 => ?_) AllReadyH.nil)
  go_simp
  refine (HRC.out V7 so M7.out).mono ?_
  rintro r V8 ⟨rfl, be⟩
  have DV8 := hide (below_next DV7.out be)
  clear be
  refine hK1.out _ _ DV8.out (fun hH => ?_)
  clear hK1
  refine wpAnyH_take (i := 18) (v := (.bool false)) rfl (by kernel_rfl) (by kernel_rfl) (by kernel_rfl) (fun _ _ _ h => h) (.inl ⟨by rfl, fun W _ => by go_simp⟩) hH ?_
  change wpAnyH _ _ _ _ _ _ _ (Act.put _ (some 39) _) _
  simp only [Act.put, List.setIfInBounds_toArray, List.set_cons_zero, List.set_cons_succ]
  refine wpAnyH_take (i := 19) (v := (.bool false)) rfl (by kernel_rfl) (by kernel_rfl) (by kernel_rfl) (fun _ _ _ h => h) (.inl ⟨by rfl, fun W _ => by go_simp⟩) hH ?_
  change wpAnyH _ _ _ _ _ _ _ (Act.put _ (some 40) _) _
  simp only [Act.put, List.setIfInBounds_toArray, List.set_cons_zero, List.set_cons_succ]
  refine wpAnyH_take (i := 20) (v := (.bool false)) rfl (by kernel_rfl) (by kernel_rfl) (by kernel_rfl) (fun _ _ _ h => h) (yl_move (by rfl) _ (by rfl) _ (by rfl)) hH ?_
  change wpAnyH _ _ _ _ _ _ _ (Act.put _ (some 41) _) _
  simp only [Act.put, List.setIfInBounds_toArray, List.set_cons_zero, List.set_cons_succ]
  refine wpAnyH_take (i := 21) (v := (.agg C)) rfl (by kernel_rfl) (by kernel_rfl) (by kernel_rfl) (fun _ _ _ h => h) (yl_load (by rfl) _ (by rfl) _ C (by rfl) (fun W hS => ld_row AM ZC.out (X1.out W hS))) hH ?_
  change wpAnyH _ _ _ _ _ _ _ (Act.put _ (some 42) _) _
  simp only [Act.put, List.setIfInBounds_toArray, List.set_cons_zero, List.set_cons_succ]
  refine wpAnyH_take (i := 22) (v := (.agg C)) rfl (by kernel_rfl) (by kernel_rfl) (by kernel_rfl) (fun _ _ _ h => h) (yl_load (by rfl) _ (by rfl) _ C (by rfl) (fun W hS => ld_row AM ZC.out (X1.out W hS))) hH ?_
  change wpAnyH _ _ _ _ _ _ _ (Act.put _ (some 43) _) _
  simp only [Act.put, List.setIfInBounds_toArray, List.set_cons_zero, List.set_cons_succ]
  refine wpAnyH_ready (rs := [23]) (by kernel_rfl) (by simp) (AllReadyH.cons rfl (fun K1 hK1 => ?_) AllReadyH.nil)
  go_simp
  refine (HS.out V8 DV8.out).mono ?_
  rintro r V9 ⟨rfl, be⟩
  have DV9 := hide (below_next DV8.out be)
  clear be
  refine hK1.out _ _ DV9.out (fun hH => ?_)
  clear hK1
  refine wpAnyH_take (i := 24) (v := (.bool false)) rfl (by kernel_rfl) (by kernel_rfl) (by kernel_rfl) (fun _ _ _ h => h) (.inl ⟨by rfl, fun W _ => by go_simp⟩) hH ?_
  change wpAnyH _ _ _ _ _ _ _ (Act.put _ (some 45) _) _
  simp only [Act.put, List.setIfInBounds_toArray, List.set_cons_zero, List.set_cons_succ]
  refine wpAnyH_take (i := 25) (v := (.bool false)) rfl (by kernel_rfl) (by kernel_rfl) (by kernel_rfl) (fun _ _ _ h => h) (.inl ⟨by rfl, fun W _ => by go_simp⟩) hH ?_
  change wpAnyH _ _ _ _ _ _ _ (Act.put _ (some 46) _) _
  simp only [Act.put, List.setIfInBounds_toArray, List.set_cons_zero, List.set_cons_succ]
  refine wpAnyH_done (by kernel_rfl) ?_ _
  clear hH M7 DV4 DV5 DV6 DV7 DV8 HC HRC HS ht2 ht3 hz2 hz3 htt
  by_cases hE : E = 0
  · have hd := hide (HD.out hE)
    subst hE
    clear HD
    have Q3 := hide (X1.out _ DV9.out)
    have ck := CK.out _ Q3.out
    go_upto_region 8 with (first | (go_at_call 11; refine (hd.out _).mono ?_; rintro r W1 ⟨v1, rfl, ml, be⟩; have D1 := hide (below_next DV9.out be); have L1 := hide ml; have O1 := hide (OV.out _ _ ml); have H1 := hide (fun W => HS2.out W v1); have H2 := hide (fun W => HR2.out W v1); clear be ml HS2 HR2 OV; generalize hDD : (m.cells v1).toArray = D at *; clear hDD) | ((with_reducible refine at_list ?_); first | refine wpList_allocA AM rfl rfl ?_ | refine wpList_store_newA AM rfl _ _ rfl _ rfl D O1.out.2 O1.out.1 rfl rfl ?_))
    have b7 := (Below.refl W1.heap.size W1).alloc (Nat.le_refl _) (.cells D 38)
    have R7 := hide (heap_alloc_last W1 (.cells D 38))
    have D7 := hide (below_next D1.out b7)
    have L7 := hide (L1.out.below b7)
    clear b7 D1 L1 hd DV9 Q3 ck CK
    generalize W1.heap.size = g7 at *
    generalize W1.alloc (.cells D 38) = W2 at *
    have X7 : Hid (∀ W, Below W2.heap.size W2 W → W.heap[g7]? = some (.cells D 38 (0, 0))) := fun W b => (b.block _ (lt_heap R7.out)).trans R7.out
    have X8 : Hid (∀ W, Below W2.heap.size W2 W → W.heap[w.heap.size]? = some (.cells C 38 (0, 0))) := fun W b => X1.out W (below_next D7.out b)
    have ZD := hide O1.out.2
    have DV1 := hide ((Below.refl W2.heap.size W2).drew)
    refine wp_region_held_drew (S := fun W => Below W2.heap.size W2 W) (by kernel_rfl) DV1.out (fun hH => ?_)
    generalize W2.drew = V1 at *
    refine wpAnyH_take (i := 0) (v := (.int .i64 0)) rfl (by kernel_rfl) (by kernel_rfl) (by kernel_rfl) (fun _ _ _ h => h) (yl_move (by rfl) _ (by rfl) _ (by rfl)) hH ?_
    change wpAnyH _ _ _ _ _ _ _ (Act.put _ (some 57) _) _
    simp only [Act.put, List.setIfInBounds_toArray, List.set_cons_zero, List.set_cons_succ]
    refine wpAnyH_take (i := 1) (v := (.bool true)) rfl (by kernel_rfl) (by kernel_rfl) (by kernel_rfl) (fun _ _ _ h => h) (.inl ⟨by rfl, fun W _ => by go_simp⟩) hH ?_
    change wpAnyH _ _ _ _ _ _ _ (Act.put _ (some 58) _) _
    simp only [Act.put, List.setIfInBounds_toArray, List.set_cons_zero, List.set_cons_succ]
    refine wpAnyH_take (i := 2) (v := (.bool true)) rfl (by kernel_rfl) (by kernel_rfl) (by kernel_rfl) (fun _ _ _ h => h) (yl_move (by rfl) _ (by rfl) _ (by rfl)) hH ?_
    change wpAnyH _ _ _ _ _ _ _ (Act.put _ (some 59) _) _
    simp only [Act.put, List.setIfInBounds_toArray, List.set_cons_zero, List.set_cons_succ]
    refine wpAnyH_take (i := 3) (v := (.int .i64 0)) rfl (by kernel_rfl) (by kernel_rfl) (by kernel_rfl) (fun _ _ _ h => h) (yl_move (by rfl) _ (by rfl) _ (by rfl)) hH ?_
    change wpAnyH _ _ _ _ _ _ _ (Act.put _ (some 60) _) _
    simp only [Act.put, List.setIfInBounds_toArray, List.set_cons_zero, List.set_cons_succ]
    refine wpAnyH_take (i := 4) (v := (.bool true)) rfl (by kernel_rfl) (by kernel_rfl) (by kernel_rfl) (fun _ _ _ h => h) (.inl ⟨by rfl, fun W _ => by go_simp⟩) hH ?_
    change wpAnyH _ _ _ _ _ _ _ (Act.put _ (some 61) _) _
    simp only [Act.put, List.setIfInBounds_toArray, List.set_cons_zero, List.set_cons_succ]
    refine wpAnyH_take (i := 5) (v := (.bool true)) rfl (by kernel_rfl) (by kernel_rfl) (by kernel_rfl) (fun _ _ _ h => h) (.inl ⟨by rfl, fun W _ => by go_simp⟩) hH ?_
    change wpAnyH _ _ _ _ _ _ _ (Act.put _ (some 62) _) _
    simp only [Act.put, List.setIfInBounds_toArray, List.set_cons_zero, List.set_cons_succ]
    refine wpAnyH_take (i := 6) (v := (.bool true)) rfl (by kernel_rfl) (by kernel_rfl) (by kernel_rfl) (fun _ _ _ h => h) (yl_move (by rfl) _ (by rfl) _ (by rfl)) hH ?_
    change wpAnyH _ _ _ _ _ _ _ (Act.put _ (some 63) _) _
    simp only [Act.put, List.setIfInBounds_toArray, List.set_cons_zero, List.set_cons_succ]
    refine wpAnyH_take (i := 7) (v := (.agg D)) rfl (by kernel_rfl) (by kernel_rfl) (by kernel_rfl) (fun _ _ _ h => h) (yl_load (by rfl) _ (by rfl) _ D (by rfl) (fun W hS => ld_row AM ZD.out (X7.out W hS))) hH ?_
    change wpAnyH _ _ _ _ _ _ _ (Act.put _ (some 64) _) _
    simp only [Act.put, List.setIfInBounds_toArray, List.set_cons_zero, List.set_cons_succ]
    refine wpAnyH_take (i := 8) (v := (.agg C)) rfl (by kernel_rfl) (by kernel_rfl) (by kernel_rfl) (fun _ _ _ h => h) (yl_load (by rfl) _ (by rfl) _ C (by rfl) (fun W hS => ld_row AM ZC.out (X8.out W hS))) hH ?_
    change wpAnyH _ _ _ _ _ _ _ (Act.put _ (some 65) _) _
    simp only [Act.put, List.setIfInBounds_toArray, List.set_cons_zero, List.set_cons_succ]
    refine wpAnyH_ready (rs := [9]) (by kernel_rfl) (by simp) (AllReadyH.cons rfl (fun K1 hK1 => ?_) AllReadyH.nil)
    go_simp
    refine (H1.out V1 (below_next D7.out DV1.out) (L7.out.below DV1.out)).mono ?_
    rintro r V2 ⟨rfl, be⟩
    have DV2 := hide (below_next DV1.out be)
    clear be
    refine hK1.out _ _ DV2.out (fun hH => ?_)
    clear hK1
    refine wpAnyH_take (i := 10) (v := (.bool true)) rfl (by kernel_rfl) (by kernel_rfl) (by kernel_rfl) (fun _ _ _ h => h) (.inl ⟨by rfl, fun W _ => by go_simp⟩) hH ?_
    change wpAnyH _ _ _ _ _ _ _ (Act.put _ (some 67) _) _
    simp only [Act.put, List.setIfInBounds_toArray, List.set_cons_zero, List.set_cons_succ]
    refine wpAnyH_take (i := 11) (v := (.bool true)) rfl (by kernel_rfl) (by kernel_rfl) (by kernel_rfl) (fun _ _ _ h => h) (yl_move (by rfl) _ (by rfl) _ (by rfl)) hH ?_
    change wpAnyH _ _ _ _ _ _ _ (Act.put _ (some 68) _) _
    simp only [Act.put, List.setIfInBounds_toArray, List.set_cons_zero, List.set_cons_succ]
    refine wpAnyH_take (i := 12) (v := (.agg D)) rfl (by kernel_rfl) (by kernel_rfl) (by kernel_rfl) (fun _ _ _ h => h) (yl_load (by rfl) _ (by rfl) _ D (by rfl) (fun W hS => ld_row AM ZD.out (X7.out W hS))) hH ?_
    change wpAnyH _ _ _ _ _ _ _ (Act.put _ (some 69) _) _
    simp only [Act.put, List.setIfInBounds_toArray, List.set_cons_zero, List.set_cons_succ]
    refine wpAnyH_take (i := 14) (v := (.agg C)) rfl (by kernel_rfl) (by kernel_rfl) (by kernel_rfl) (fun _ _ _ h => h) (yl_load (by rfl) _ (by rfl) _ C (by rfl) (fun W hS => ld_row AM ZC.out (X8.out W hS))) hH ?_
    change wpAnyH _ _ _ _ _ _ _ (Act.put _ (some 71) _) _
    simp only [Act.put, List.setIfInBounds_toArray, List.set_cons_zero, List.set_cons_succ]
    refine wpAnyH_ready (rs := [13]) (by kernel_rfl) (by simp) (AllReadyH.cons rfl (fun K1 hK1 => ?_) AllReadyH.nil)
    go_simp
    refine (H2.out V2 (L7.out.below DV2.out)).mono ?_
    rintro r V3 ⟨so1, rfl, mr, be⟩
    have DV3 := hide (below_next DV2.out be)
    have M3 := hide mr
    clear mr
    clear be
    refine hK1.out _ _ DV3.out (fun hH => ?_)
    clear hK1
    refine wpAnyH_ready (rs := [15]) (by kernel_rfl) (by simp) (AllReadyH.cons rfl (fun K1 hK1 => ?_) AllReadyH.nil)
    go_simp
    refine (HR.out V3 (below_next D7.out DV3.out)).mono ?_
    rintro r V4 ⟨so2, rfl, mr, be⟩
    have DV4 := hide (below_next DV3.out be)
    have M4 := hide mr
    have M5 := hide (M3.out.below be)
    clear mr
    clear be
    refine hK1.out _ _ DV4.out (fun hH => ?_)
    clear hK1
    refine wpAnyH_ready (rs := [16]) (by kernel_rfl) (by simp) (AllReadyH.cons rfl (fun K1 hK1 => ?_) AllReadyH.nil)
    go_simp
    refine (HRS.out V4 so1 so2 M5.out M4.out).mono ?_
    rintro r V5 ⟨rfl, be⟩
    have DV5 := hide (below_next DV4.out be)
    clear be
    refine hK1.out _ _ DV5.out (fun hH => ?_)
    clear hK1
    refine wpAnyH_take (i := 17) (v := (.bool true)) rfl (by kernel_rfl) (by kernel_rfl) (by kernel_rfl) (fun _ _ _ h => h) (.inl ⟨by rfl, fun W _ => by go_simp⟩) hH ?_
    change wpAnyH _ _ _ _ _ _ _ (Act.put _ (some 74) _) _
    simp only [Act.put, List.setIfInBounds_toArray, List.set_cons_zero, List.set_cons_succ]
    refine wpAnyH_ready (rs := [18]) (by kernel_rfl) (by simp) (AllReadyH.cons rfl (fun K1 hK1 => ?_) AllReadyH.nil)
    go_simp
    refine hK1.out _ _ DV5.out (fun hH => ?_)
    clear hK1
    refine wpAnyH_done (by kernel_rfl) ?_ _
    clear hH
    go_wp2
    go_ret
    exact ⟨rfl, below_next B1.out (below_next D7.out DV5.out)⟩
  · have hE2 : (E != 0) = true := by simpa using hE
    have hE3 : decide (E = 0) = false := by simpa using hE
    clear HD HR2 HS2 HR HRS OV CK
    go_wp2
    go_ret
    exact ⟨rfl, below_next B1.out DV9.out⟩
end
end Go.Proofs.YtkoidjaaojmcnaaGreat
