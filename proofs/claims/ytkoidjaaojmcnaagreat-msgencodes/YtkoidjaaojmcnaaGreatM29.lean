/- The document's Payload, kind by kind. -/
import Derived.Test.YtkoidjaaojmcnaaGreatM28
namespace Go.Proofs.YtkoidjaaojmcnaaGreat
open Go.RowKit
open Go.Deep
set_option linter.unusedVariables false
set_option linter.unusedSimpArgs false
section
set_option maxRecDepth 10000
set_option maxHeartbeats 8000000
theorem pay_2 (m : Mg) (s : Vs) (w : World) (hk : m.kind = 2) : Calls Tryz.prog 26 #[.agg (m.cells s).toArray] w fun e w' => e = .returned (.string (txt ([]))) ∧ Below w.heap.size w w' := by
  have B1 := hide ((Below.refl w.heap.size w).alloc (Nat.le_refl _) (.cells (m.cells s).toArray 50))
  have RA := hide (heap_alloc_last w (.cells (m.cells s).toArray 50))
  have MC := hide (Mc.of (m := m) (s := s) RA.out)
  have ck := MC.out.f0
  rw [hk] at ck
  clear hk
  go_enter Tryz.func26, Tryz.ntmps26
  go_wp2_with (with_reducible refine at_list ?_; refine wpList_boxA rfl _ rfl (m.cells s).toArray rfl ?_)
  go_ret
  exact ⟨rfl, B1.out⟩
theorem pay_3 (m : Mg) (s : Vs) (w : World) (hk : m.kind = 3) : Calls Tryz.prog 26 #[.agg (m.cells s).toArray] w fun e w' => e = .returned (.string (txt ([]))) ∧ Below w.heap.size w w' := by
  have B1 := hide ((Below.refl w.heap.size w).alloc (Nat.le_refl _) (.cells (m.cells s).toArray 50))
  have RA := hide (heap_alloc_last w (.cells (m.cells s).toArray 50))
  have MC := hide (Mc.of (m := m) (s := s) RA.out)
  have ck := MC.out.f0
  rw [hk] at ck
  clear hk
  go_enter Tryz.func26, Tryz.ntmps26
  go_wp2_with (with_reducible refine at_list ?_; refine wpList_boxA rfl _ rfl (m.cells s).toArray rfl ?_)
  go_ret
  exact ⟨rfl, B1.out⟩
theorem pay_4 (m : Mg) (s : Vs) (w : World) (hk : m.kind = 4) : Calls Tryz.prog 26 #[.agg (m.cells s).toArray] w fun e w' => e = .returned (.string (txt ([]))) ∧ Below w.heap.size w w' := by
  have B1 := hide ((Below.refl w.heap.size w).alloc (Nat.le_refl _) (.cells (m.cells s).toArray 50))
  have RA := hide (heap_alloc_last w (.cells (m.cells s).toArray 50))
  have MC := hide (Mc.of (m := m) (s := s) RA.out)
  have ck := MC.out.f0
  rw [hk] at ck
  clear hk
  go_enter Tryz.func26, Tryz.ntmps26
  go_wp2_with (with_reducible refine at_list ?_; refine wpList_boxA rfl _ rfl (m.cells s).toArray rfl ?_)
  go_ret
  exact ⟨rfl, B1.out⟩
theorem pay_5 (m : Mg) (s : Vs) (w : World) (hk : m.kind = 5) : Calls Tryz.prog 26 #[.agg (m.cells s).toArray] w fun e w' => e = .returned (.string (txt (lowL m.nonce.toNat 8))) ∧ Below w.heap.size w w' := by
  have B1 := hide ((Below.refl w.heap.size w).alloc (Nat.le_refl _) (.cells (m.cells s).toArray 50))
  have RA := hide (heap_alloc_last w (.cells (m.cells s).toArray 50))
  have MC := hide (Mc.of (m := m) (s := s) RA.out)
  have ck := MC.out.f0
  rw [hk] at ck
  clear hk
  have c3 := MC.out.f3
  have L8 : Hid (∀ W, Calls Tryz.prog 64 #[.int .u64 (m.nonce.toNat : Int), .int .i64 8] W fun e w' => e = .returned (.string (txt (lowL (m.nonce.toNat) 8))) ∧ Below W.heap.size W w') := fun W => low_any (m.nonce.toNat) 8 8 rfl m.nonce.toNat_lt W (by decide)
  clear MC
  go_enter Tryz.func26, Tryz.ntmps26
  go_wp2_with (first | (go_at_call 64; with_reducible refine (L8.out _).mono ?_; rintro e W1 ⟨rfl, be⟩; have B2 := hide (below_next B1.out be); clear be) | (with_reducible refine at_list ?_; refine wpList_boxA rfl _ rfl (m.cells s).toArray rfl ?_))
  go_ret
  exact ⟨rfl, B2.out⟩
theorem pay_6 (m : Mg) (s : Vs) (w : World) (hk : m.kind = 6) : Calls Tryz.prog 26 #[.agg (m.cells s).toArray] w fun e w' => e = .returned (.string (txt (lowL m.nonce.toNat 8))) ∧ Below w.heap.size w w' := by
  have B1 := hide ((Below.refl w.heap.size w).alloc (Nat.le_refl _) (.cells (m.cells s).toArray 50))
  have RA := hide (heap_alloc_last w (.cells (m.cells s).toArray 50))
  have MC := hide (Mc.of (m := m) (s := s) RA.out)
  have ck := MC.out.f0
  rw [hk] at ck
  clear hk
  have c3 := MC.out.f3
  have L8 : Hid (∀ W, Calls Tryz.prog 64 #[.int .u64 (m.nonce.toNat : Int), .int .i64 8] W fun e w' => e = .returned (.string (txt (lowL (m.nonce.toNat) 8))) ∧ Below W.heap.size W w') := fun W => low_any (m.nonce.toNat) 8 8 rfl m.nonce.toNat_lt W (by decide)
  clear MC
  go_enter Tryz.func26, Tryz.ntmps26
  go_wp2_with (first | (go_at_call 64; with_reducible refine (L8.out _).mono ?_; rintro e W1 ⟨rfl, be⟩; have B2 := hide (below_next B1.out be); clear be) | (with_reducible refine at_list ?_; refine wpList_boxA rfl _ rfl (m.cells s).toArray rfl ?_))
  go_ret
  exact ⟨rfl, B2.out⟩
theorem pay_13 (m : Mg) (s : Vs) (w : World) (hk : m.kind = 13) : Calls Tryz.prog 26 #[.agg (m.cells s).toArray] w fun e w' => e = .returned (.string (txt (m.raw.data.toList))) ∧ Below w.heap.size w w' := by
  have B1 := hide ((Below.refl w.heap.size w).alloc (Nat.le_refl _) (.cells (m.cells s).toArray 50))
  have RA := hide (heap_alloc_last w (.cells (m.cells s).toArray 50))
  have MC := hide (Mc.of (m := m) (s := s) RA.out)
  have ck := MC.out.f0
  rw [hk] at ck
  clear hk
  have c1 := MC.out.f18
  clear MC
  go_enter Tryz.func26, Tryz.ntmps26
  go_wp2_with (with_reducible refine at_list ?_; refine wpList_boxA rfl _ rfl (m.cells s).toArray rfl ?_)
  go_ret
  exact ⟨rfl, B1.out⟩
theorem pay_14 (m : Mg) (s : Vs) (w : World) (hk : m.kind = 14) : Calls Tryz.prog 26 #[.agg (m.cells s).toArray] w fun e w' => e = .returned (.string (txt (m.raw.data.toList))) ∧ Below w.heap.size w w' := by
  have B1 := hide ((Below.refl w.heap.size w).alloc (Nat.le_refl _) (.cells (m.cells s).toArray 50))
  have RA := hide (heap_alloc_last w (.cells (m.cells s).toArray 50))
  have MC := hide (Mc.of (m := m) (s := s) RA.out)
  have ck := MC.out.f0
  rw [hk] at ck
  clear hk
  have c1 := MC.out.f18
  clear MC
  go_enter Tryz.func26, Tryz.ntmps26
  go_wp2_with (with_reducible refine at_list ?_; refine wpList_boxA rfl _ rfl (m.cells s).toArray rfl ?_)
  go_ret
  exact ⟨rfl, B1.out⟩
theorem pay_15 (m : Mg) (s : Vs) (w : World) (hk : m.kind = 15) : Calls Tryz.prog 26 #[.agg (m.cells s).toArray] w fun e w' => e = .returned (.string (txt (flagL m.high ++ lowL m.nonce.toNat 8))) ∧ Below w.heap.size w w' := by
  have B1 := hide ((Below.refl w.heap.size w).alloc (Nat.le_refl _) (.cells (m.cells s).toArray 50))
  have RA := hide (heap_alloc_last w (.cells (m.cells s).toArray 50))
  have MC := hide (Mc.of (m := m) (s := s) RA.out)
  have ck := MC.out.f0
  rw [hk] at ck
  clear hk
  have L8 : Hid (∀ W, Calls Tryz.prog 64 #[.int .u64 (m.nonce.toNat : Int), .int .i64 8] W fun e w' => e = .returned (.string (txt (lowL (m.nonce.toNat) 8))) ∧ Below W.heap.size W w') := fun W => low_any (m.nonce.toNat) 8 8 rfl m.nonce.toNat_lt W (by decide)
  have LF := hide (fun W => rflag_any m.high W)
  have LEN : Hid ((txt (flagL m.high)).size = 1 ∧ (txt (lowL m.nonce.toNat 8)).size = 8) := ⟨by rw [txt_sz]; unfold flagL; rw [lowL_len], by rw [txt_sz, lowL_len]⟩
  have EQ := hide (txt_app (flagL m.high) (lowL m.nonce.toNat 8))
  have HE : Hid (txt (flagL m.high ++ lowL m.nonce.toNat 8) = txt (flagL m.high ++ lowL m.nonce.toNat 8)) := rfl
  generalize txt (flagL m.high) = tf at *
  generalize txt (lowL m.nonce.toNat 8) = t8 at *
  clear MC
  go_enter Tryz.func26, Tryz.ntmps26
  go_upto_region 39 with (with_reducible refine at_list ?_; refine wpList_boxA rfl _ rfl (m.cells s).toArray rfl ?_)
  generalize w.alloc (.cells (m.cells s).toArray 50) = A at *
  have CC : Hid (∀ W, Below A.heap.size A W → Mc W w.heap.size m s) := fun W b => Mc.of ((b.block _ (lt_heap RA.out)).trans RA.out)
  have BD := hide ((Below.refl A.heap.size A).drew)
  refine wp_region_held_drew (S := fun W => Below A.heap.size A W) (by kernel_rfl) BD.out (fun hH => ?_)
  generalize hWd : A.drew = W1 at *
  clear hWd
  refine wpAnyH_take (i := 0) (v := (.pointer (some ⟨w.heap.size, 46, none⟩))) rfl (by kernel_rfl) (by kernel_rfl) (by kernel_rfl) (fun _ _ _ h => h) (.inl ⟨by rfl, fun W _ => by go_simp⟩) hH ?_
  change wpAnyH _ _ _ _ _ _ _ (Act.put _ (some 175) _) _
  simp only [Act.put, List.setIfInBounds_toArray, List.set_cons_zero, List.set_cons_succ]
  refine wpAnyH_take (i := 1) (v := (.bool m.high)) rfl (by kernel_rfl) (by kernel_rfl) (by kernel_rfl) (fun _ _ _ h => h) (.inl ⟨by rfl, fun W hS => by have c4 := (CC.out W hS).f10; go_simp⟩) hH ?_
  change wpAnyH _ _ _ _ _ _ _ (Act.put _ (some 176) _) _
  simp only [Act.put, List.setIfInBounds_toArray, List.set_cons_zero, List.set_cons_succ]
  refine wpAnyH_take (i := 3) (v := (.pointer (some ⟨w.heap.size, 3, none⟩))) rfl (by kernel_rfl) (by kernel_rfl) (by kernel_rfl) (fun _ _ _ h => h) (.inl ⟨by rfl, fun W _ => by go_simp⟩) hH ?_
  change wpAnyH _ _ _ _ _ _ _ (Act.put _ (some 178) _) _
  simp only [Act.put, List.setIfInBounds_toArray, List.set_cons_zero, List.set_cons_succ]
  refine wpAnyH_take (i := 4) (v := (.int .u64 (m.nonce.toNat : Int))) rfl (by kernel_rfl) (by kernel_rfl) (by kernel_rfl) (fun _ _ _ h => h) (.inl ⟨by rfl, fun W hS => by have c4 := (CC.out W hS).f3; go_simp⟩) hH ?_
  change wpAnyH _ _ _ _ _ _ _ (Act.put _ (some 179) _) _
  simp only [Act.put, List.setIfInBounds_toArray, List.set_cons_zero, List.set_cons_succ]
  refine wpAnyH_ready (rs := [2]) (by kernel_rfl) (by simp) (AllReadyH.cons rfl (fun K1 hK1 => ?_) AllReadyH.nil)
  go_simp
  with_reducible refine (LF.out W1).mono ?_
  rintro e W2 ⟨rfl, rfl⟩
  refine hK1.out _ _ BD.out (fun hH => ?_)
  clear hK1
  refine wpAnyH_ready (rs := [5]) (by kernel_rfl) (by simp) (AllReadyH.cons rfl (fun K1 hK1 => ?_) AllReadyH.nil)
  go_simp
  with_reducible refine (L8.out W2).mono ?_
  rintro e W3 ⟨rfl, be⟩
  have B3 := hide (below_next BD.out be)
  clear be
  refine hK1.out _ _ B3.out (fun hH => ?_)
  clear hK1
  refine wpAnyH_take (i := 6) (v := (.string (tf ++ t8))) rfl (by kernel_rfl) (by kernel_rfl) (by kernel_rfl) (fun _ _ _ h => h) (.inl ⟨by rfl, fun W _ => by obtain ⟨l1, l2⟩ := LEN.out; go_simp⟩) hH ?_
  change wpAnyH _ _ _ _ _ _ _ (Act.put _ (some 181) _) _
  simp only [Act.put, List.setIfInBounds_toArray, List.set_cons_zero, List.set_cons_succ]
  refine wpAnyH_ready (rs := [7]) (by kernel_rfl) (by simp) (AllReadyH.cons rfl (fun K1 hK1 => ?_) AllReadyH.nil)
  go_simp
  refine hK1.out _ _ B3.out (fun hH => ?_)
  clear hK1
  refine wpAnyH_done (by kernel_rfl) ?_ _
  clear hH CC L8 LF LEN
  go_wp2
  go_ret
  exact ⟨by rw [← EQ.out]; rfl, below_next B1.out B3.out⟩
theorem pay_1 (m : Mg) (s : Vs) (w : World) (hk : m.kind = 1) (hag : m.agent.size ≤ 64) : Calls Tryz.prog 26 #[.agg (m.cells s).toArray] w fun e w' => e = .returned (.string (txt (m.payV))) ∧ Below w.heap.size w w' := by
  have B1 := hide ((Below.refl w.heap.size w).alloc (Nat.le_refl _) (.cells (m.cells s).toArray 50))
  have RA := hide (heap_alloc_last w (.cells (m.cells s).toArray 50))
  have MC := hide (Mc.of (m := m) (s := s) RA.out)
  have ck := MC.out.f0
  rw [hk] at ck
  clear hk
  have hv := m.vers.toNat_lt
  have hh := m.height.toNat_lt
  have e0 : IntKind.u64.wrap (m.vers.toNat : Int) = (m.vers.toNat : Int) := wrapu _ (by omega) (by omega)
  have e7 : IntKind.u64.wrap (m.height.toNat : Int) = (m.height.toNat : Int) := wrapu _ (by omega) (by omega)
  have e2 := tm64_wrap m.time
  have L0 : Hid (∀ W, Calls Tryz.prog 64 #[.int .u64 (m.vers.toNat : Int), .int .i64 4] W fun e w' => e = .returned (.string (txt (lowL (m.vers.toNat) 4))) ∧ Below W.heap.size W w') := fun W => low_any (m.vers.toNat) 4 4 rfl (by unfold U64; omega) W (by decide)
  have L1 : Hid (∀ W, Calls Tryz.prog 64 #[.int .u64 (m.serv.toNat : Int), .int .i64 8] W fun e w' => e = .returned (.string (txt (lowL (m.serv.toNat) 8))) ∧ Below W.heap.size W w') := fun W => low_any (m.serv.toNat) 8 8 rfl m.serv.toNat_lt W (by decide)
  have L2 : Hid (∀ W, Calls Tryz.prog 64 #[.int .u64 (tm64 m.time : Int), .int .i64 8] W fun e w' => e = .returned (.string (txt (lowL (tm64 m.time) 8))) ∧ Below W.heap.size W w') := fun W => low_any (tm64 m.time) 8 8 rfl (tm64_lt _) W (by decide)
  have L5 : Hid (∀ W, Calls Tryz.prog 64 #[.int .u64 (m.nonce.toNat : Int), .int .i64 8] W fun e w' => e = .returned (.string (txt (lowL (m.nonce.toNat) 8))) ∧ Below W.heap.size W w') := fun W => low_any (m.nonce.toNat) 8 8 rfl m.nonce.toNat_lt W (by decide)
  have L7 : Hid (∀ W, Calls Tryz.prog 64 #[.int .u64 (m.height.toNat : Int), .int .i64 4] W fun e w' => e = .returned (.string (txt (lowL (m.height.toNat) 4))) ∧ Below W.heap.size W w') := fun W => low_any (m.height.toNat) 4 4 rfl (by unfold U64; omega) W (by decide)
  have L3 := hide (fun W => rnet_false m.dst W)
  have L4 := hide (fun W => rnet_false m.src W)
  have L6 := hide (fun W => rraw_any m.agent (by omega) W)
  have L8 := hide (fun W => rflag_any m.relay W)
  have LEN : Hid ((txt (lowL m.vers.toNat 4)).size = 4 ∧ (txt (lowL m.serv.toNat 8)).size = 8 ∧ (txt (lowL (tm64 m.time) 8)).size = 8 ∧ (txt m.dst.bytes).size = 26 ∧ (txt m.src.bytes).size = 26 ∧ (txt (lowL m.nonce.toNat 8)).size = 8 ∧ (txt (rawL m.agent)).size ≤ 4105 ∧ (txt (lowL m.height.toNat 4)).size = 4 ∧ (txt (flagL m.relay)).size = 1) := ⟨by rw [txt_sz, lowL_len], by rw [txt_sz, lowL_len], by rw [txt_sz, lowL_len], by rw [txt_sz, m.dst.bytes_len], by rw [txt_sz, m.src.bytes_len], by rw [txt_sz, lowL_len], by rw [txt_sz]; exact rawL_len _ (by omega), by rw [txt_sz, lowL_len], by rw [txt_sz]; unfold flagL; rw [lowL_len]⟩
  have EQ : Hid (txt (lowL m.vers.toNat 4) ++ txt (lowL m.serv.toNat 8) ++ txt (lowL (tm64 m.time) 8) ++ txt m.dst.bytes ++ txt m.src.bytes ++ txt (lowL m.nonce.toNat 8) ++ txt (rawL m.agent) ++ txt (lowL m.height.toNat 4) ++ txt (flagL m.relay) = txt m.payV) := by
    show _ = _
    simp only [txt_app, Mg.payV, List.append_assoc]
  generalize txt (lowL m.vers.toNat 4) = t0 at *
  generalize txt (lowL m.serv.toNat 8) = t1 at *
  generalize txt (lowL (tm64 m.time) 8) = t2 at *
  generalize txt m.dst.bytes = t3 at *
  generalize txt m.src.bytes = t4 at *
  generalize txt (lowL m.nonce.toNat 8) = t5 at *
  generalize txt (rawL m.agent) = t6 at *
  generalize txt (lowL m.height.toNat 4) = t7 at *
  generalize txt (flagL m.relay) = t8 at *
  clear MC hv hh hag
  go_enter Tryz.func26, Tryz.ntmps26
  go_upto_region 4 with (with_reducible refine at_list ?_; refine wpList_boxA rfl _ rfl (m.cells s).toArray rfl ?_)
  generalize w.alloc (.cells (m.cells s).toArray 50) = A at *
  have CC : Hid (∀ W, Below A.heap.size A W → Mc W w.heap.size m s) := fun W b => Mc.of ((b.block _ (lt_heap RA.out)).trans RA.out)
  have BD := hide ((Below.refl A.heap.size A).drew)
  refine wp_region_held_drew (S := fun W => Below A.heap.size A W) (by kernel_rfl) BD.out (fun hH => ?_)
  generalize hWd : A.drew = W1 at *
  clear hWd
  refine wpAnyH_take (i := 0) (v := (.pointer (some ⟨w.heap.size, 1, none⟩))) rfl (by kernel_rfl) (by kernel_rfl) (by kernel_rfl) (fun _ _ _ h => h) (.inl ⟨by rfl, fun W _ => by go_simp⟩) hH ?_
  change wpAnyH _ _ _ _ _ _ _ (Act.put _ (some 18) _) _
  simp only [Act.put, List.setIfInBounds_toArray, List.set_cons_zero, List.set_cons_succ]
  refine wpAnyH_take (i := 4) (v := (.pointer (some ⟨w.heap.size, 2, none⟩))) rfl (by kernel_rfl) (by kernel_rfl) (by kernel_rfl) (fun _ _ _ h => h) (.inl ⟨by rfl, fun W _ => by go_simp⟩) hH ?_
  change wpAnyH _ _ _ _ _ _ _ (Act.put _ (some 22) _) _
  simp only [Act.put, List.setIfInBounds_toArray, List.set_cons_zero, List.set_cons_succ]
  refine wpAnyH_take (i := 8) (v := (.pointer (some ⟨w.heap.size, 4, none⟩))) rfl (by kernel_rfl) (by kernel_rfl) (by kernel_rfl) (fun _ _ _ h => h) (.inl ⟨by rfl, fun W _ => by go_simp⟩) hH ?_
  change wpAnyH _ _ _ _ _ _ _ (Act.put _ (some 26) _) _
  simp only [Act.put, List.setIfInBounds_toArray, List.set_cons_zero, List.set_cons_succ]
  refine wpAnyH_take (i := 13) (v := (.pointer (some ⟨w.heap.size, 5, none⟩))) rfl (by kernel_rfl) (by kernel_rfl) (by kernel_rfl) (fun _ _ _ h => h) (.inl ⟨by rfl, fun W _ => by go_simp⟩) hH ?_
  change wpAnyH _ _ _ _ _ _ _ (Act.put _ (some 31) _) _
  simp only [Act.put, List.setIfInBounds_toArray, List.set_cons_zero, List.set_cons_succ]
  refine wpAnyH_take (i := 17) (v := (.pointer (some ⟨w.heap.size, 24, none⟩))) rfl (by kernel_rfl) (by kernel_rfl) (by kernel_rfl) (fun _ _ _ h => h) (.inl ⟨by rfl, fun W _ => by go_simp⟩) hH ?_
  change wpAnyH _ _ _ _ _ _ _ (Act.put _ (some 35) _) _
  simp only [Act.put, List.setIfInBounds_toArray, List.set_cons_zero, List.set_cons_succ]
  refine wpAnyH_take (i := 21) (v := (.pointer (some ⟨w.heap.size, 3, none⟩))) rfl (by kernel_rfl) (by kernel_rfl) (by kernel_rfl) (fun _ _ _ h => h) (.inl ⟨by rfl, fun W _ => by go_simp⟩) hH ?_
  change wpAnyH _ _ _ _ _ _ _ (Act.put _ (some 39) _) _
  simp only [Act.put, List.setIfInBounds_toArray, List.set_cons_zero, List.set_cons_succ]
  refine wpAnyH_take (i := 25) (v := (.pointer (some ⟨w.heap.size, 43, none⟩))) rfl (by kernel_rfl) (by kernel_rfl) (by kernel_rfl) (fun _ _ _ h => h) (.inl ⟨by rfl, fun W _ => by go_simp⟩) hH ?_
  change wpAnyH _ _ _ _ _ _ _ (Act.put _ (some 43) _) _
  simp only [Act.put, List.setIfInBounds_toArray, List.set_cons_zero, List.set_cons_succ]
  refine wpAnyH_take (i := 29) (v := (.pointer (some ⟨w.heap.size, 44, none⟩))) rfl (by kernel_rfl) (by kernel_rfl) (by kernel_rfl) (fun _ _ _ h => h) (.inl ⟨by rfl, fun W _ => by go_simp⟩) hH ?_
  change wpAnyH _ _ _ _ _ _ _ (Act.put _ (some 47) _) _
  simp only [Act.put, List.setIfInBounds_toArray, List.set_cons_zero, List.set_cons_succ]
  refine wpAnyH_take (i := 34) (v := (.pointer (some ⟨w.heap.size, 45, none⟩))) rfl (by kernel_rfl) (by kernel_rfl) (by kernel_rfl) (fun _ _ _ h => h) (.inl ⟨by rfl, fun W _ => by go_simp⟩) hH ?_
  change wpAnyH _ _ _ _ _ _ _ (Act.put _ (some 52) _) _
  simp only [Act.put, List.setIfInBounds_toArray, List.set_cons_zero, List.set_cons_succ]
  refine wpAnyH_take (i := 1) (v := (.int .u32 (m.vers.toNat : Int))) rfl (by kernel_rfl) (by kernel_rfl) (by kernel_rfl) (fun _ _ _ h => h) (.inl ⟨by rfl, fun W hS => by have c4 := (CC.out W hS).f1; go_simp⟩) hH ?_
  change wpAnyH _ _ _ _ _ _ _ (Act.put _ (some 19) _) _
  simp only [Act.put, List.setIfInBounds_toArray, List.set_cons_zero, List.set_cons_succ]
  refine wpAnyH_take (i := 2) (v := (.int .u64 (m.vers.toNat : Int))) rfl (by kernel_rfl) (by kernel_rfl) (by kernel_rfl) (fun _ _ _ h => h) (.inl ⟨by rfl, fun W _ => by go_simp⟩) hH ?_
  change wpAnyH _ _ _ _ _ _ _ (Act.put _ (some 20) _) _
  simp only [Act.put, List.setIfInBounds_toArray, List.set_cons_zero, List.set_cons_succ]
  refine wpAnyH_take (i := 5) (v := (.int .u64 (m.serv.toNat : Int))) rfl (by kernel_rfl) (by kernel_rfl) (by kernel_rfl) (fun _ _ _ h => h) (.inl ⟨by rfl, fun W hS => by have c4 := (CC.out W hS).f2; go_simp⟩) hH ?_
  change wpAnyH _ _ _ _ _ _ _ (Act.put _ (some 23) _) _
  simp only [Act.put, List.setIfInBounds_toArray, List.set_cons_zero, List.set_cons_succ]
  refine wpAnyH_take (i := 9) (v := (.int .i64 m.time)) rfl (by kernel_rfl) (by kernel_rfl) (by kernel_rfl) (fun _ _ _ h => h) (.inl ⟨by rfl, fun W hS => by have c4 := (CC.out W hS).f4; go_simp⟩) hH ?_
  change wpAnyH _ _ _ _ _ _ _ (Act.put _ (some 27) _) _
  simp only [Act.put, List.setIfInBounds_toArray, List.set_cons_zero, List.set_cons_succ]
  refine wpAnyH_take (i := 10) (v := (.int .u64 (tm64 m.time : Int))) rfl (by kernel_rfl) (by kernel_rfl) (by kernel_rfl) (fun _ _ _ h => h) (.inl ⟨by rfl, fun W _ => by go_simp⟩) hH ?_
  change wpAnyH _ _ _ _ _ _ _ (Act.put _ (some 28) _) _
  simp only [Act.put, List.setIfInBounds_toArray, List.set_cons_zero, List.set_cons_succ]
  refine wpAnyH_take (i := 14) (v := (.agg m.dst.cells.toArray)) rfl (by kernel_rfl) (by kernel_rfl) (by kernel_rfl) (fun _ _ _ h => h) (yl_load (by rfl) _ (by rfl) _ m.dst.cells.toArray (by rfl) (fun W hS => KNr.load m.dst Tryz.underlying44 rfl (CC.out W hS).dst)) hH ?_
  change wpAnyH _ _ _ _ _ _ _ (Act.put _ (some 32) _) _
  simp only [Act.put, List.setIfInBounds_toArray, List.set_cons_zero, List.set_cons_succ]
  refine wpAnyH_take (i := 18) (v := (.agg m.src.cells.toArray)) rfl (by kernel_rfl) (by kernel_rfl) (by kernel_rfl) (fun _ _ _ h => h) (yl_load (by rfl) _ (by rfl) _ m.src.cells.toArray (by rfl) (fun W hS => KNr.load m.src Tryz.underlying44 rfl (CC.out W hS).src)) hH ?_
  change wpAnyH _ _ _ _ _ _ _ (Act.put _ (some 36) _) _
  simp only [Act.put, List.setIfInBounds_toArray, List.set_cons_zero, List.set_cons_succ]
  refine wpAnyH_take (i := 22) (v := (.int .u64 (m.nonce.toNat : Int))) rfl (by kernel_rfl) (by kernel_rfl) (by kernel_rfl) (fun _ _ _ h => h) (.inl ⟨by rfl, fun W hS => by have c4 := (CC.out W hS).f3; go_simp⟩) hH ?_
  change wpAnyH _ _ _ _ _ _ _ (Act.put _ (some 40) _) _
  simp only [Act.put, List.setIfInBounds_toArray, List.set_cons_zero, List.set_cons_succ]
  refine wpAnyH_take (i := 26) (v := (.string m.agent)) rfl (by kernel_rfl) (by kernel_rfl) (by kernel_rfl) (fun _ _ _ h => h) (.inl ⟨by rfl, fun W hS => by have c4 := (CC.out W hS).f7; go_simp⟩) hH ?_
  change wpAnyH _ _ _ _ _ _ _ (Act.put _ (some 44) _) _
  simp only [Act.put, List.setIfInBounds_toArray, List.set_cons_zero, List.set_cons_succ]
  refine wpAnyH_take (i := 30) (v := (.int .u32 (m.height.toNat : Int))) rfl (by kernel_rfl) (by kernel_rfl) (by kernel_rfl) (fun _ _ _ h => h) (.inl ⟨by rfl, fun W hS => by have c4 := (CC.out W hS).f8; go_simp⟩) hH ?_
  change wpAnyH _ _ _ _ _ _ _ (Act.put _ (some 48) _) _
  simp only [Act.put, List.setIfInBounds_toArray, List.set_cons_zero, List.set_cons_succ]
  refine wpAnyH_take (i := 31) (v := (.int .u64 (m.height.toNat : Int))) rfl (by kernel_rfl) (by kernel_rfl) (by kernel_rfl) (fun _ _ _ h => h) (.inl ⟨by rfl, fun W _ => by go_simp⟩) hH ?_
  change wpAnyH _ _ _ _ _ _ _ (Act.put _ (some 49) _) _
  simp only [Act.put, List.setIfInBounds_toArray, List.set_cons_zero, List.set_cons_succ]
  refine wpAnyH_take (i := 35) (v := (.bool m.relay)) rfl (by kernel_rfl) (by kernel_rfl) (by kernel_rfl) (fun _ _ _ h => h) (.inl ⟨by rfl, fun W hS => by have c4 := (CC.out W hS).f9; go_simp⟩) hH ?_
  change wpAnyH _ _ _ _ _ _ _ (Act.put _ (some 53) _) _
  simp only [Act.put, List.setIfInBounds_toArray, List.set_cons_zero, List.set_cons_succ]
  refine wpAnyH_ready (rs := [3]) (by kernel_rfl) (by simp) (AllReadyH.cons rfl (fun K1 hK1 => ?_) AllReadyH.nil)
  go_simp
  with_reducible refine (L0.out W1).mono ?_
  rintro e W2 ⟨rfl, be⟩
  have C0 := hide (below_next BD.out be)
  clear be
  refine hK1.out _ _ C0.out (fun hH => ?_)
  clear hK1
  refine wpAnyH_ready (rs := [6]) (by kernel_rfl) (by simp) (AllReadyH.cons rfl (fun K1 hK1 => ?_) AllReadyH.nil)
  go_simp
  with_reducible refine (L1.out W2).mono ?_
  rintro e W3 ⟨rfl, be⟩
  have C1 := hide (below_next C0.out be)
  clear be
  refine hK1.out _ _ C1.out (fun hH => ?_)
  clear hK1
  refine wpAnyH_take (i := 7) (v := (.string (t0 ++ t1))) rfl (by kernel_rfl) (by kernel_rfl) (by kernel_rfl) (fun _ _ _ h => h) (.inl ⟨by rfl, fun W _ => by obtain ⟨l0, l1, l2, l3, l4, l5, l6, l7, l8⟩ := LEN.out; go_simp <;> omega⟩) hH ?_
  change wpAnyH _ _ _ _ _ _ _ (Act.put _ (some 25) _) _
  simp only [Act.put, List.setIfInBounds_toArray, List.set_cons_zero, List.set_cons_succ]
  refine wpAnyH_ready (rs := [11]) (by kernel_rfl) (by simp) (AllReadyH.cons rfl (fun K1 hK1 => ?_) AllReadyH.nil)
  go_simp
  with_reducible refine (L2.out W3).mono ?_
  rintro e W4 ⟨rfl, be⟩
  have C2 := hide (below_next C1.out be)
  clear be
  refine hK1.out _ _ C2.out (fun hH => ?_)
  clear hK1
  refine wpAnyH_take (i := 12) (v := (.string (t0 ++ t1 ++ t2))) rfl (by kernel_rfl) (by kernel_rfl) (by kernel_rfl) (fun _ _ _ h => h) (.inl ⟨by rfl, fun W _ => by obtain ⟨l0, l1, l2, l3, l4, l5, l6, l7, l8⟩ := LEN.out; go_simp <;> omega⟩) hH ?_
  change wpAnyH _ _ _ _ _ _ _ (Act.put _ (some 30) _) _
  simp only [Act.put, List.setIfInBounds_toArray, List.set_cons_zero, List.set_cons_succ]
  refine wpAnyH_ready (rs := [15]) (by kernel_rfl) (by simp) (AllReadyH.cons rfl (fun K1 hK1 => ?_) AllReadyH.nil)
  go_simp
  with_reducible refine (L3.out W4).mono ?_
  rintro e W5 ⟨rfl, be⟩
  have C3 := hide (below_next C2.out be)
  clear be
  refine hK1.out _ _ C3.out (fun hH => ?_)
  clear hK1
  refine wpAnyH_take (i := 16) (v := (.string (t0 ++ t1 ++ t2 ++ t3))) rfl (by kernel_rfl) (by kernel_rfl) (by kernel_rfl) (fun _ _ _ h => h) (.inl ⟨by rfl, fun W _ => by obtain ⟨l0, l1, l2, l3, l4, l5, l6, l7, l8⟩ := LEN.out; go_simp <;> omega⟩) hH ?_
  change wpAnyH _ _ _ _ _ _ _ (Act.put _ (some 34) _) _
  simp only [Act.put, List.setIfInBounds_toArray, List.set_cons_zero, List.set_cons_succ]
  refine wpAnyH_ready (rs := [19]) (by kernel_rfl) (by simp) (AllReadyH.cons rfl (fun K1 hK1 => ?_) AllReadyH.nil)
  go_simp
  with_reducible refine (L4.out W5).mono ?_
  rintro e W6 ⟨rfl, be⟩
  have C4 := hide (below_next C3.out be)
  clear be
  refine hK1.out _ _ C4.out (fun hH => ?_)
  clear hK1
  refine wpAnyH_take (i := 20) (v := (.string (t0 ++ t1 ++ t2 ++ t3 ++ t4))) rfl (by kernel_rfl) (by kernel_rfl) (by kernel_rfl) (fun _ _ _ h => h) (.inl ⟨by rfl, fun W _ => by obtain ⟨l0, l1, l2, l3, l4, l5, l6, l7, l8⟩ := LEN.out; go_simp <;> omega⟩) hH ?_
  change wpAnyH _ _ _ _ _ _ _ (Act.put _ (some 38) _) _
  simp only [Act.put, List.setIfInBounds_toArray, List.set_cons_zero, List.set_cons_succ]
  refine wpAnyH_ready (rs := [23]) (by kernel_rfl) (by simp) (AllReadyH.cons rfl (fun K1 hK1 => ?_) AllReadyH.nil)
  go_simp
  with_reducible refine (L5.out W6).mono ?_
  rintro e W7 ⟨rfl, be⟩
  have C5 := hide (below_next C4.out be)
  clear be
  refine hK1.out _ _ C5.out (fun hH => ?_)
  clear hK1
  refine wpAnyH_take (i := 24) (v := (.string (t0 ++ t1 ++ t2 ++ t3 ++ t4 ++ t5))) rfl (by kernel_rfl) (by kernel_rfl) (by kernel_rfl) (fun _ _ _ h => h) (.inl ⟨by rfl, fun W _ => by obtain ⟨l0, l1, l2, l3, l4, l5, l6, l7, l8⟩ := LEN.out; go_simp <;> omega⟩) hH ?_
  change wpAnyH _ _ _ _ _ _ _ (Act.put _ (some 42) _) _
  simp only [Act.put, List.setIfInBounds_toArray, List.set_cons_zero, List.set_cons_succ]
  refine wpAnyH_ready (rs := [27]) (by kernel_rfl) (by simp) (AllReadyH.cons rfl (fun K1 hK1 => ?_) AllReadyH.nil)
  go_simp
  with_reducible refine (L6.out W7).mono ?_
  rintro e W8 ⟨rfl, be⟩
  have C6 := hide (below_next C5.out be)
  clear be
  refine hK1.out _ _ C6.out (fun hH => ?_)
  clear hK1
  refine wpAnyH_take (i := 28) (v := (.string (t0 ++ t1 ++ t2 ++ t3 ++ t4 ++ t5 ++ t6))) rfl (by kernel_rfl) (by kernel_rfl) (by kernel_rfl) (fun _ _ _ h => h) (.inl ⟨by rfl, fun W _ => by obtain ⟨l0, l1, l2, l3, l4, l5, l6, l7, l8⟩ := LEN.out; go_simp <;> omega⟩) hH ?_
  change wpAnyH _ _ _ _ _ _ _ (Act.put _ (some 46) _) _
  simp only [Act.put, List.setIfInBounds_toArray, List.set_cons_zero, List.set_cons_succ]
  refine wpAnyH_ready (rs := [32]) (by kernel_rfl) (by simp) (AllReadyH.cons rfl (fun K1 hK1 => ?_) AllReadyH.nil)
  go_simp
  with_reducible refine (L7.out W8).mono ?_
  rintro e W9 ⟨rfl, be⟩
  have C7 := hide (below_next C6.out be)
  clear be
  refine hK1.out _ _ C7.out (fun hH => ?_)
  clear hK1
  refine wpAnyH_take (i := 33) (v := (.string (t0 ++ t1 ++ t2 ++ t3 ++ t4 ++ t5 ++ t6 ++ t7))) rfl (by kernel_rfl) (by kernel_rfl) (by kernel_rfl) (fun _ _ _ h => h) (.inl ⟨by rfl, fun W _ => by obtain ⟨l0, l1, l2, l3, l4, l5, l6, l7, l8⟩ := LEN.out; go_simp <;> omega⟩) hH ?_
  change wpAnyH _ _ _ _ _ _ _ (Act.put _ (some 51) _) _
  simp only [Act.put, List.setIfInBounds_toArray, List.set_cons_zero, List.set_cons_succ]
  refine wpAnyH_ready (rs := [36]) (by kernel_rfl) (by simp) (AllReadyH.cons rfl (fun K1 hK1 => ?_) AllReadyH.nil)
  go_simp
  with_reducible refine (L8.out W9).mono ?_
  rintro e W10 ⟨rfl, rfl⟩
  refine hK1.out _ _ C7.out (fun hH => ?_)
  clear hK1
  refine wpAnyH_take (i := 37) (v := (.string (t0 ++ t1 ++ t2 ++ t3 ++ t4 ++ t5 ++ t6 ++ t7 ++ t8))) rfl (by kernel_rfl) (by kernel_rfl) (by kernel_rfl) (fun _ _ _ h => h) (.inl ⟨by rfl, fun W _ => by obtain ⟨l0, l1, l2, l3, l4, l5, l6, l7, l8⟩ := LEN.out; go_simp <;> omega⟩) hH ?_
  change wpAnyH _ _ _ _ _ _ _ (Act.put _ (some 55) _) _
  simp only [Act.put, List.setIfInBounds_toArray, List.set_cons_zero, List.set_cons_succ]
  refine wpAnyH_ready (rs := [38]) (by kernel_rfl) (by simp) (AllReadyH.cons rfl (fun K1 hK1 => ?_) AllReadyH.nil)
  go_simp
  refine hK1.out _ _ C7.out (fun hH => ?_)
  clear hK1
  refine wpAnyH_done (by kernel_rfl) ?_ _
  clear hH CC L0 L1 L2 L3 L4 L5 L6 L7 L8 LEN
  go_wp2
  go_ret
  exact ⟨by rw [← EQ.out]; rfl, below_next B1.out C7.out⟩
end
end Go.Proofs.YtkoidjaaojmcnaaGreat
