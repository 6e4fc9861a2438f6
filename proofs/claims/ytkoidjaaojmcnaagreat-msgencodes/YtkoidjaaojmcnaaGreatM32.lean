/- The document's Payload: things and ids. -/
import Derived.Test.YtkoidjaaojmcnaaGreatM31
namespace Go.Proofs.YtkoidjaaojmcnaaGreat
open Go.RowKit
open Go.Deep
set_option linter.unusedVariables false
set_option linter.unusedSimpArgs false
section
set_option maxRecDepth 10000
set_option maxHeartbeats 8000000
theorem pay_8 (m : Mg) (s : Vs) (w : World) (hk : m.kind = 8) (hR : MR w s m) (hn : m.items.length ≤ 500) : Calls Tryz.prog 26 #[.agg (m.cells s).toArray] w fun e w' => e = .returned (.string (txt (countL m.items.length ++ m.items.flatMap Im.bytes))) ∧ Below w.heap.size w w' := by
  have b1 := (Below.refl w.heap.size w).alloc (Nat.le_refl _) (.cells (m.cells s).toArray 50)
  have B1 := hide b1
  have RA := hide (heap_alloc_last w (.cells (m.cells s).toArray 50))
  have ck := (Mc.of (m := m) (s := s) RA.out).f0
  rw [hk] at ck
  obtain ⟨ao, ca, ea⟩ := hR.i.form
  have cl := (Mc.of (m := m) (s := s) RA.out).f12
  rw [ea] at cl
  have XL := hide ((ea ▸ hR.i).below b1)
  have CC : Hid (∀ W, Below (w.alloc (.cells (m.cells s).toArray 50)).heap.size (w.alloc (.cells (m.cells s).toArray 50)) W → W.cell? ⟨w.heap.size, 48, none⟩ = some (.slice ao m.items.length ca)) := fun W b => by
    have := (Mc.of (m := m) (s := s) ((b.block _ (lt_heap RA.out)).trans RA.out)).f12
    rwa [ea] at this
  have LC := hide (fun W => rcount9 m.items.length (by omega) W)
  have HN := hide hn
  have HFL : Hid (∀ k, (txt (countL m.items.length ++ (m.items.take k).flatMap Im.bytes)).size ≤ 9 + 500 * 36) := fun k => by
    have h1 := flat_len Im.bytes 36 (m.items.take k) (fun x hx => Nat.le_of_eq x.bytes_len)
    have h2 : (m.items.take k).length ≤ 500 := by rw [List.length_take]; omega
    have h3 : (m.items.take k).length * 36 ≤ 500 * 36 := Nat.mul_le_mul_right _ h2
    have h4 := countL_9 m.items.length
    rw [txt_sz, List.length_append]
    omega
  clear hk hR hn b1 ea
  go_enter Tryz.func26, Tryz.ntmps26
  go_upto_region 18 with (first | (go_at_call 68; with_reducible refine (LC.out _).mono ?_; rintro e W1 ⟨rfl, be⟩; have J0 := hide be; clear be) | (with_reducible refine at_list ?_; refine wpList_boxA rfl _ rfl (m.cells s).toArray rfl ?_))
  generalize w.alloc (.cells (m.cells s).toArray 50) = A at *
  clear ck cl LC
  go_wp2
  go_loopw [3, 5] (fun t i wq => ∃ k : Nat, k ≤ m.items.length ∧ i = .int .i64 (k : Int) ∧ t = .string (txt (countL m.items.length ++ (m.items.take k).flatMap Im.bytes)) ∧ Hid (Below A.heap.size A wq)) (fun _ i _ => (m.items.length - intOf i).toNat)
  case atStart => exact ⟨0, Nat.zero_le _, rfl, by simp, J0⟩
  case round =>
    clear J0
    obtain ⟨k, hk, rfl, rfl, J⟩ := hrel
    have cl := CC.out wr J.out
    by_cases hlt : k < m.items.length
    · have h1 : (k : Int) < (m.items.length : Int) := by omega
      have h2 : (0 : Int) ≤ (k : Int) := by omega
      have h5 := HN.out
      have e1 : IntKind.i64.wrap ((k : Int) + 1) = k + 1 := wrapI _ (by omega) (by omega)
      have KK := hide (And.intro (show k + 1 ≤ m.items.length by omega) (show ((m.items.length : Int) - ((k : Int) + 1)).toNat < ((m.items.length : Int) - (k : Int)).toNat by omega))
      obtain ⟨ga, oa, rfl⟩ := XL.out.base (by omega)
      have hr : ∀ W, Below A.heap.size A W → W.rangeAt ga (oa + k * 33) m.items[k].cells := fun W b => (XL.out.below b).range k hlt
      have HA : Hid (txt (countL m.items.length ++ (m.items.take (k + 1)).flatMap Im.bytes) = txt (countL m.items.length ++ (m.items.take k).flatMap Im.bytes) ++ (txt (lowL m.items[k].kind.toNat 4) ++ txt m.items[k].hash)) := by
        show _ = _
        rw [flat_snoc Im.bytes m.items k hlt, txt_app, txt_app, List.append_assoc]
        rfl
      have hs := HFL.out k
      generalize txt (countL m.items.length ++ (m.items.take k).flatMap Im.bytes) = ta at *
      generalize m.items[k] = x at *
      clear hlt hk h5
      have hv := x.kind.toNat_lt
      have e4 : IntKind.u64.wrap (x.kind.toNat : Int) = (x.kind.toNat : Int) := wrapu _ (by omega) (by omega)
      have L4 : Hid (∀ W, Calls Tryz.prog 64 #[.int .u64 (x.kind.toNat : Int), .int .i64 4] W fun e w' => e = .returned (.string (txt (lowL (x.kind.toNat) 4))) ∧ Below W.heap.size W w') := fun W => low_any (x.kind.toNat) 4 4 rfl (by unfold U64; omega) W (by decide)
      have CX : Hid (∀ W, Below A.heap.size A W → W.cell? ⟨ga, oa + k * 33, none⟩ = some (.int .u32 (x.kind.toNat : Int)) ∧ (convert 95 9 (.slice (some ⟨ga, oa + k * 33 + 1, none⟩) 32 32)).run Tryz.prog W = .ok (.string (txt x.hash)) W) := fun W b => by
        have h := hr W b
        refine ⟨h 0 _ rfl, conv_mid W ga (oa + k * 33 + 1) x.hash (fun j v hv => ?_) 32 x.hh.symm⟩
        have := h (1 + j) v (by rw [Nat.add_comm]; exact hv)
        rwa [← Nat.add_assoc] at this
      have LEN : Hid (ta.size ≤ 18009 ∧ (txt (lowL x.kind.toNat 4)).size = 4 ∧ (txt x.hash).size = 32) := ⟨by omega, by rw [txt_sz, lowL_len], by rw [txt_sz, x.hh]⟩
      generalize txt (lowL x.kind.toNat 4) = t4 at *
      generalize txt x.hash = th at *
      clear hr hs hv
      go_upto_region 21 with fail
      clear cl
      have BD := hide J.out.drew
      refine wp_region_held_drew (S := fun W => Below A.heap.size A W) (by kernel_rfl) BD.out (fun hH => ?_)
      generalize hWd : wr.drew = W1 at *
      clear hWd
      refine wpAnyH_take (i := 0) (v := (.string ta)) rfl (by kernel_rfl) (by kernel_rfl) (by kernel_rfl) (fun _ _ _ h => h) (yl_move (by rfl) _ (by rfl) _ (by rfl)) hH ?_
      change wpAnyH _ _ _ _ _ _ _ (Act.put _ (some 98) _) _
      simp only [Act.put, List.setIfInBounds_toArray, List.set_cons_zero, List.set_cons_succ]
      refine wpAnyH_take (i := 1) (v := (.pointer (some ⟨w.heap.size, 48, none⟩))) rfl (by kernel_rfl) (by kernel_rfl) (by kernel_rfl) (fun _ _ _ h => h) (.inl ⟨by rfl, fun W _ => by go_simp⟩) hH ?_
      change wpAnyH _ _ _ _ _ _ _ (Act.put _ (some 99) _) _
      simp only [Act.put, List.setIfInBounds_toArray, List.set_cons_zero, List.set_cons_succ]
      refine wpAnyH_take (i := 2) (v := (.slice (some ⟨ga, oa, none⟩) m.items.length ca)) rfl (by kernel_rfl) (by kernel_rfl) (by kernel_rfl) (fun _ _ _ h => h) (.inl ⟨by rfl, fun W hS => by have c4 := (CC.out W hS); go_simp⟩) hH ?_
      change wpAnyH _ _ _ _ _ _ _ (Act.put _ (some 100) _) _
      simp only [Act.put, List.setIfInBounds_toArray, List.set_cons_zero, List.set_cons_succ]
      refine wpAnyH_take (i := 3) (v := (.int .i64 (k : Int))) rfl (by kernel_rfl) (by kernel_rfl) (by kernel_rfl) (fun _ _ _ h => h) (yl_move (by rfl) _ (by rfl) _ (by rfl)) hH ?_
      change wpAnyH _ _ _ _ _ _ _ (Act.put _ (some 101) _) _
      simp only [Act.put, List.setIfInBounds_toArray, List.set_cons_zero, List.set_cons_succ]
      refine wpAnyH_take (i := 4) (v := (.pointer (some ⟨ga, oa + k * 33, none⟩))) rfl (by kernel_rfl) (by kernel_rfl) (by kernel_rfl) (fun _ _ _ h => h) (.inl ⟨by rfl, fun W _ => by go_simp⟩) hH ?_
      change wpAnyH _ _ _ _ _ _ _ (Act.put _ (some 102) _) _
      simp only [Act.put, List.setIfInBounds_toArray, List.set_cons_zero, List.set_cons_succ]
      refine wpAnyH_take (i := 5) (v := (.pointer (some ⟨ga, oa + k * 33, none⟩))) rfl (by kernel_rfl) (by kernel_rfl) (by kernel_rfl) (fun _ _ _ h => h) (.inl ⟨by rfl, fun W _ => by go_simp⟩) hH ?_
      change wpAnyH _ _ _ _ _ _ _ (Act.put _ (some 103) _) _
      simp only [Act.put, List.setIfInBounds_toArray, List.set_cons_zero, List.set_cons_succ]
      refine wpAnyH_take (i := 6) (v := (.int .u32 (x.kind.toNat : Int))) rfl (by kernel_rfl) (by kernel_rfl) (by kernel_rfl) (fun _ _ _ h => h) (.inl ⟨by rfl, fun W hS => by have c4 := (CX.out W hS).1; go_simp⟩) hH ?_
      change wpAnyH _ _ _ _ _ _ _ (Act.put _ (some 104) _) _
      simp only [Act.put, List.setIfInBounds_toArray, List.set_cons_zero, List.set_cons_succ]
      refine wpAnyH_take (i := 7) (v := (.int .u64 (x.kind.toNat : Int))) rfl (by kernel_rfl) (by kernel_rfl) (by kernel_rfl) (fun _ _ _ h => h) (.inl ⟨by rfl, fun W _ => by go_simp⟩) hH ?_
      change wpAnyH _ _ _ _ _ _ _ (Act.put _ (some 105) _) _
      simp only [Act.put, List.setIfInBounds_toArray, List.set_cons_zero, List.set_cons_succ]
      refine wpAnyH_take (i := 9) (v := (.pointer (some ⟨w.heap.size, 48, none⟩))) rfl (by kernel_rfl) (by kernel_rfl) (by kernel_rfl) (fun _ _ _ h => h) (.inl ⟨by rfl, fun W _ => by go_simp⟩) hH ?_
      change wpAnyH _ _ _ _ _ _ _ (Act.put _ (some 107) _) _
      simp only [Act.put, List.setIfInBounds_toArray, List.set_cons_zero, List.set_cons_succ]
      refine wpAnyH_take (i := 10) (v := (.slice (some ⟨ga, oa, none⟩) m.items.length ca)) rfl (by kernel_rfl) (by kernel_rfl) (by kernel_rfl) (fun _ _ _ h => h) (.inl ⟨by rfl, fun W hS => by have c4 := (CC.out W hS); go_simp⟩) hH ?_
      change wpAnyH _ _ _ _ _ _ _ (Act.put _ (some 108) _) _
      simp only [Act.put, List.setIfInBounds_toArray, List.set_cons_zero, List.set_cons_succ]
      refine wpAnyH_take (i := 11) (v := (.int .i64 (k : Int))) rfl (by kernel_rfl) (by kernel_rfl) (by kernel_rfl) (fun _ _ _ h => h) (yl_move (by rfl) _ (by rfl) _ (by rfl)) hH ?_
      change wpAnyH _ _ _ _ _ _ _ (Act.put _ (some 109) _) _
      simp only [Act.put, List.setIfInBounds_toArray, List.set_cons_zero, List.set_cons_succ]
      refine wpAnyH_take (i := 12) (v := (.pointer (some ⟨ga, oa + k * 33, none⟩))) rfl (by kernel_rfl) (by kernel_rfl) (by kernel_rfl) (fun _ _ _ h => h) (.inl ⟨by rfl, fun W _ => by go_simp⟩) hH ?_
      change wpAnyH _ _ _ _ _ _ _ (Act.put _ (some 110) _) _
      simp only [Act.put, List.setIfInBounds_toArray, List.set_cons_zero, List.set_cons_succ]
      refine wpAnyH_take (i := 13) (v := (.pointer (some ⟨ga, oa + k * 33 + 1, none⟩))) rfl (by kernel_rfl) (by kernel_rfl) (by kernel_rfl) (fun _ _ _ h => h) (.inl ⟨by rfl, fun W _ => by go_simp⟩) hH ?_
      change wpAnyH _ _ _ _ _ _ _ (Act.put _ (some 111) _) _
      simp only [Act.put, List.setIfInBounds_toArray, List.set_cons_zero, List.set_cons_succ]
      refine wpAnyH_take (i := 14) (v := (.slice (some ⟨ga, oa + k * 33 + 1, none⟩) 32 32)) rfl (by kernel_rfl) (by kernel_rfl) (by kernel_rfl) (fun _ _ _ h => h) (.inl ⟨by rfl, fun W _ => by go_simp⟩) hH ?_
      change wpAnyH _ _ _ _ _ _ _ (Act.put _ (some 112) _) _
      simp only [Act.put, List.setIfInBounds_toArray, List.set_cons_zero, List.set_cons_succ]
      refine wpAnyH_take (i := 15) (v := (.string th)) rfl (by kernel_rfl) (by kernel_rfl) (by kernel_rfl) (fun _ _ _ h => h) (.inl ⟨by rfl, fun W hS => by have c4 := (CX.out W hS).2; go_simp⟩) hH ?_
      change wpAnyH _ _ _ _ _ _ _ (Act.put _ (some 113) _) _
      simp only [Act.put, List.setIfInBounds_toArray, List.set_cons_zero, List.set_cons_succ]
      refine wpAnyH_ready (rs := [8]) (by kernel_rfl) (by simp) (AllReadyH.cons rfl (fun K1 hK1 => ?_) AllReadyH.nil)
      go_simp
      with_reducible refine (L4.out W1).mono ?_
      rintro e W2 ⟨rfl, be⟩
      have J2 := hide (below_next BD.out be)
      clear be
      refine hK1.out _ _ J2.out (fun hH => ?_)
      clear hK1
      refine wpAnyH_take (i := 16) (v := (.string (t4 ++ th))) rfl (by kernel_rfl) (by kernel_rfl) (by kernel_rfl) (fun _ _ _ h => h) (.inl ⟨by rfl, fun W _ => by obtain ⟨l0, l1, l2⟩ := LEN.out; go_simp⟩) hH ?_
      change wpAnyH _ _ _ _ _ _ _ (Act.put _ (some 114) _) _
      simp only [Act.put, List.setIfInBounds_toArray, List.set_cons_zero, List.set_cons_succ]
      refine wpAnyH_take (i := 17) (v := (.string (ta ++ (t4 ++ th)))) rfl (by kernel_rfl) (by kernel_rfl) (by kernel_rfl) (fun _ _ _ h => h) (.inl ⟨by rfl, fun W _ => by obtain ⟨l0, l1, l2⟩ := LEN.out; go_simp <;> omega⟩) hH ?_
      change wpAnyH _ _ _ _ _ _ _ (Act.put _ (some 115) _) _
      simp only [Act.put, List.setIfInBounds_toArray, List.set_cons_zero, List.set_cons_succ]
      refine wpAnyH_ready (rs := [18]) (by kernel_rfl) (by simp) (AllReadyH.cons rfl (fun K1 hK1 => ?_) AllReadyH.nil)
      go_simp
      refine hK1.out _ _ J2.out (fun hH => ?_)
      clear hK1
      refine wpAnyH_done (by kernel_rfl) ?_ _
      clear hH LEN L4 CX BD
      have cl := CC.out W2 J2.out
      go_wp2
      exact ⟨⟨k + 1, KK.out.1, by go_num, by rw [HA.out], J2⟩, by simpa [intOf] using KK.out.2⟩
    · have h1 : ¬ (k : Int) < (m.items.length : Int) := by omega
      have e9 : m.items.take k = m.items := List.take_of_length_le (by omega)
      rw [e9]
      clear hlt hk e9 HFL
      go_wp2
      go_ret
      exact ⟨rfl, below_next B1.out J.out⟩
theorem pay_9 (m : Mg) (s : Vs) (w : World) (hk : m.kind = 9) (hR : MR w s m) (hn : m.items.length ≤ 500) : Calls Tryz.prog 26 #[.agg (m.cells s).toArray] w fun e w' => e = .returned (.string (txt (countL m.items.length ++ m.items.flatMap Im.bytes))) ∧ Below w.heap.size w w' := by
  have b1 := (Below.refl w.heap.size w).alloc (Nat.le_refl _) (.cells (m.cells s).toArray 50)
  have B1 := hide b1
  have RA := hide (heap_alloc_last w (.cells (m.cells s).toArray 50))
  have ck := (Mc.of (m := m) (s := s) RA.out).f0
  rw [hk] at ck
  obtain ⟨ao, ca, ea⟩ := hR.i.form
  have cl := (Mc.of (m := m) (s := s) RA.out).f12
  rw [ea] at cl
  have XL := hide ((ea ▸ hR.i).below b1)
  have CC : Hid (∀ W, Below (w.alloc (.cells (m.cells s).toArray 50)).heap.size (w.alloc (.cells (m.cells s).toArray 50)) W → W.cell? ⟨w.heap.size, 48, none⟩ = some (.slice ao m.items.length ca)) := fun W b => by
    have := (Mc.of (m := m) (s := s) ((b.block _ (lt_heap RA.out)).trans RA.out)).f12
    rwa [ea] at this
  have LC := hide (fun W => rcount9 m.items.length (by omega) W)
  have HN := hide hn
  have HFL : Hid (∀ k, (txt (countL m.items.length ++ (m.items.take k).flatMap Im.bytes)).size ≤ 9 + 500 * 36) := fun k => by
    have h1 := flat_len Im.bytes 36 (m.items.take k) (fun x hx => Nat.le_of_eq x.bytes_len)
    have h2 : (m.items.take k).length ≤ 500 := by rw [List.length_take]; omega
    have h3 : (m.items.take k).length * 36 ≤ 500 * 36 := Nat.mul_le_mul_right _ h2
    have h4 := countL_9 m.items.length
    rw [txt_sz, List.length_append]
    omega
  clear hk hR hn b1 ea
  go_enter Tryz.func26, Tryz.ntmps26
  go_upto_region 18 with (first | (go_at_call 68; with_reducible refine (LC.out _).mono ?_; rintro e W1 ⟨rfl, be⟩; have J0 := hide be; clear be) | (with_reducible refine at_list ?_; refine wpList_boxA rfl _ rfl (m.cells s).toArray rfl ?_))
  generalize w.alloc (.cells (m.cells s).toArray 50) = A at *
  clear ck cl LC
  go_wp2
  go_loopw [3, 5] (fun t i wq => ∃ k : Nat, k ≤ m.items.length ∧ i = .int .i64 (k : Int) ∧ t = .string (txt (countL m.items.length ++ (m.items.take k).flatMap Im.bytes)) ∧ Hid (Below A.heap.size A wq)) (fun _ i _ => (m.items.length - intOf i).toNat)
  case atStart => exact ⟨0, Nat.zero_le _, rfl, by simp, J0⟩
  case round =>
    clear J0
    obtain ⟨k, hk, rfl, rfl, J⟩ := hrel
    have cl := CC.out wr J.out
    by_cases hlt : k < m.items.length
    · have h1 : (k : Int) < (m.items.length : Int) := by omega
      have h2 : (0 : Int) ≤ (k : Int) := by omega
      have h5 := HN.out
      have e1 : IntKind.i64.wrap ((k : Int) + 1) = k + 1 := wrapI _ (by omega) (by omega)
      have KK := hide (And.intro (show k + 1 ≤ m.items.length by omega) (show ((m.items.length : Int) - ((k : Int) + 1)).toNat < ((m.items.length : Int) - (k : Int)).toNat by omega))
      obtain ⟨ga, oa, rfl⟩ := XL.out.base (by omega)
      have hr : ∀ W, Below A.heap.size A W → W.rangeAt ga (oa + k * 33) m.items[k].cells := fun W b => (XL.out.below b).range k hlt
      have HA : Hid (txt (countL m.items.length ++ (m.items.take (k + 1)).flatMap Im.bytes) = txt (countL m.items.length ++ (m.items.take k).flatMap Im.bytes) ++ (txt (lowL m.items[k].kind.toNat 4) ++ txt m.items[k].hash)) := by
        show _ = _
        rw [flat_snoc Im.bytes m.items k hlt, txt_app, txt_app, List.append_assoc]
        rfl
      have hs := HFL.out k
      generalize txt (countL m.items.length ++ (m.items.take k).flatMap Im.bytes) = ta at *
      generalize m.items[k] = x at *
      clear hlt hk h5
      have hv := x.kind.toNat_lt
      have e4 : IntKind.u64.wrap (x.kind.toNat : Int) = (x.kind.toNat : Int) := wrapu _ (by omega) (by omega)
      have L4 : Hid (∀ W, Calls Tryz.prog 64 #[.int .u64 (x.kind.toNat : Int), .int .i64 4] W fun e w' => e = .returned (.string (txt (lowL (x.kind.toNat) 4))) ∧ Below W.heap.size W w') := fun W => low_any (x.kind.toNat) 4 4 rfl (by unfold U64; omega) W (by decide)
      have CX : Hid (∀ W, Below A.heap.size A W → W.cell? ⟨ga, oa + k * 33, none⟩ = some (.int .u32 (x.kind.toNat : Int)) ∧ (convert 95 9 (.slice (some ⟨ga, oa + k * 33 + 1, none⟩) 32 32)).run Tryz.prog W = .ok (.string (txt x.hash)) W) := fun W b => by
        have h := hr W b
        refine ⟨h 0 _ rfl, conv_mid W ga (oa + k * 33 + 1) x.hash (fun j v hv => ?_) 32 x.hh.symm⟩
        have := h (1 + j) v (by rw [Nat.add_comm]; exact hv)
        rwa [← Nat.add_assoc] at this
      have LEN : Hid (ta.size ≤ 18009 ∧ (txt (lowL x.kind.toNat 4)).size = 4 ∧ (txt x.hash).size = 32) := ⟨by omega, by rw [txt_sz, lowL_len], by rw [txt_sz, x.hh]⟩
      generalize txt (lowL x.kind.toNat 4) = t4 at *
      generalize txt x.hash = th at *
      clear hr hs hv
      go_upto_region 21 with fail
      clear cl
      have BD := hide J.out.drew
      refine wp_region_held_drew (S := fun W => Below A.heap.size A W) (by kernel_rfl) BD.out (fun hH => ?_)
      generalize hWd : wr.drew = W1 at *
      clear hWd
      refine wpAnyH_take (i := 0) (v := (.string ta)) rfl (by kernel_rfl) (by kernel_rfl) (by kernel_rfl) (fun _ _ _ h => h) (yl_move (by rfl) _ (by rfl) _ (by rfl)) hH ?_
      change wpAnyH _ _ _ _ _ _ _ (Act.put _ (some 98) _) _
      simp only [Act.put, List.setIfInBounds_toArray, List.set_cons_zero, List.set_cons_succ]
      refine wpAnyH_take (i := 1) (v := (.pointer (some ⟨w.heap.size, 48, none⟩))) rfl (by kernel_rfl) (by kernel_rfl) (by kernel_rfl) (fun _ _ _ h => h) (.inl ⟨by rfl, fun W _ => by go_simp⟩) hH ?_
      change wpAnyH _ _ _ _ _ _ _ (Act.put _ (some 99) _) _
      simp only [Act.put, List.setIfInBounds_toArray, List.set_cons_zero, List.set_cons_succ]
      refine wpAnyH_take (i := 2) (v := (.slice (some ⟨ga, oa, none⟩) m.items.length ca)) rfl (by kernel_rfl) (by kernel_rfl) (by kernel_rfl) (fun _ _ _ h => h) (.inl ⟨by rfl, fun W hS => by have c4 := (CC.out W hS); go_simp⟩) hH ?_
      change wpAnyH _ _ _ _ _ _ _ (Act.put _ (some 100) _) _
      simp only [Act.put, List.setIfInBounds_toArray, List.set_cons_zero, List.set_cons_succ]
      refine wpAnyH_take (i := 3) (v := (.int .i64 (k : Int))) rfl (by kernel_rfl) (by kernel_rfl) (by kernel_rfl) (fun _ _ _ h => h) (yl_move (by rfl) _ (by rfl) _ (by rfl)) hH ?_
      change wpAnyH _ _ _ _ _ _ _ (Act.put _ (some 101) _) _
      simp only [Act.put, List.setIfInBounds_toArray, List.set_cons_zero, List.set_cons_succ]
      refine wpAnyH_take (i := 4) (v := (.pointer (some ⟨ga, oa + k * 33, none⟩))) rfl (by kernel_rfl) (by kernel_rfl) (by kernel_rfl) (fun _ _ _ h => h) (.inl ⟨by rfl, fun W _ => by go_simp⟩) hH ?_
      change wpAnyH _ _ _ _ _ _ _ (Act.put _ (some 102) _) _
      simp only [Act.put, List.setIfInBounds_toArray, List.set_cons_zero, List.set_cons_succ]
      refine wpAnyH_take (i := 5) (v := (.pointer (some ⟨ga, oa + k * 33, none⟩))) rfl (by kernel_rfl) (by kernel_rfl) (by kernel_rfl) (fun _ _ _ h => h) (.inl ⟨by rfl, fun W _ => by go_simp⟩) hH ?_
      change wpAnyH _ _ _ _ _ _ _ (Act.put _ (some 103) _) _
      simp only [Act.put, List.setIfInBounds_toArray, List.set_cons_zero, List.set_cons_succ]
      refine wpAnyH_take (i := 6) (v := (.int .u32 (x.kind.toNat : Int))) rfl (by kernel_rfl) (by kernel_rfl) (by kernel_rfl) (fun _ _ _ h => h) (.inl ⟨by rfl, fun W hS => by have c4 := (CX.out W hS).1; go_simp⟩) hH ?_
      change wpAnyH _ _ _ _ _ _ _ (Act.put _ (some 104) _) _
      simp only [Act.put, List.setIfInBounds_toArray, List.set_cons_zero, List.set_cons_succ]
      refine wpAnyH_take (i := 7) (v := (.int .u64 (x.kind.toNat : Int))) rfl (by kernel_rfl) (by kernel_rfl) (by kernel_rfl) (fun _ _ _ h => h) (.inl ⟨by rfl, fun W _ => by go_simp⟩) hH ?_
      change wpAnyH _ _ _ _ _ _ _ (Act.put _ (some 105) _) _
      simp only [Act.put, List.setIfInBounds_toArray, List.set_cons_zero, List.set_cons_succ]
      refine wpAnyH_take (i := 9) (v := (.pointer (some ⟨w.heap.size, 48, none⟩))) rfl (by kernel_rfl) (by kernel_rfl) (by kernel_rfl) (fun _ _ _ h => h) (.inl ⟨by rfl, fun W _ => by go_simp⟩) hH ?_
      change wpAnyH _ _ _ _ _ _ _ (Act.put _ (some 107) _) _
      simp only [Act.put, List.setIfInBounds_toArray, List.set_cons_zero, List.set_cons_succ]
      refine wpAnyH_take (i := 10) (v := (.slice (some ⟨ga, oa, none⟩) m.items.length ca)) rfl (by kernel_rfl) (by kernel_rfl) (by kernel_rfl) (fun _ _ _ h => h) (.inl ⟨by rfl, fun W hS => by have c4 := (CC.out W hS); go_simp⟩) hH ?_
      change wpAnyH _ _ _ _ _ _ _ (Act.put _ (some 108) _) _
      simp only [Act.put, List.setIfInBounds_toArray, List.set_cons_zero, List.set_cons_succ]
      refine wpAnyH_take (i := 11) (v := (.int .i64 (k : Int))) rfl (by kernel_rfl) (by kernel_rfl) (by kernel_rfl) (fun _ _ _ h => h) (yl_move (by rfl) _ (by rfl) _ (by rfl)) hH ?_
      change wpAnyH _ _ _ _ _ _ _ (Act.put _ (some 109) _) _
      simp only [Act.put, List.setIfInBounds_toArray, List.set_cons_zero, List.set_cons_succ]
      refine wpAnyH_take (i := 12) (v := (.pointer (some ⟨ga, oa + k * 33, none⟩))) rfl (by kernel_rfl) (by kernel_rfl) (by kernel_rfl) (fun _ _ _ h => h) (.inl ⟨by rfl, fun W _ => by go_simp⟩) hH ?_
      change wpAnyH _ _ _ _ _ _ _ (Act.put _ (some 110) _) _
      simp only [Act.put, List.setIfInBounds_toArray, List.set_cons_zero, List.set_cons_succ]
      refine wpAnyH_take (i := 13) (v := (.pointer (some ⟨ga, oa + k * 33 + 1, none⟩))) rfl (by kernel_rfl) (by kernel_rfl) (by kernel_rfl) (fun _ _ _ h => h) (.inl ⟨by rfl, fun W _ => by go_simp⟩) hH ?_
      change wpAnyH _ _ _ _ _ _ _ (Act.put _ (some 111) _) _
      simp only [Act.put, List.setIfInBounds_toArray, List.set_cons_zero, List.set_cons_succ]
      refine wpAnyH_take (i := 14) (v := (.slice (some ⟨ga, oa + k * 33 + 1, none⟩) 32 32)) rfl (by kernel_rfl) (by kernel_rfl) (by kernel_rfl) (fun _ _ _ h => h) (.inl ⟨by rfl, fun W _ => by go_simp⟩) hH ?_
      change wpAnyH _ _ _ _ _ _ _ (Act.put _ (some 112) _) _
      simp only [Act.put, List.setIfInBounds_toArray, List.set_cons_zero, List.set_cons_succ]
      refine wpAnyH_take (i := 15) (v := (.string th)) rfl (by kernel_rfl) (by kernel_rfl) (by kernel_rfl) (fun _ _ _ h => h) (.inl ⟨by rfl, fun W hS => by have c4 := (CX.out W hS).2; go_simp⟩) hH ?_
      change wpAnyH _ _ _ _ _ _ _ (Act.put _ (some 113) _) _
      simp only [Act.put, List.setIfInBounds_toArray, List.set_cons_zero, List.set_cons_succ]
      refine wpAnyH_ready (rs := [8]) (by kernel_rfl) (by simp) (AllReadyH.cons rfl (fun K1 hK1 => ?_) AllReadyH.nil)
      go_simp
      with_reducible refine (L4.out W1).mono ?_
      rintro e W2 ⟨rfl, be⟩
      have J2 := hide (below_next BD.out be)
      clear be
      refine hK1.out _ _ J2.out (fun hH => ?_)
      clear hK1
      refine wpAnyH_take (i := 16) (v := (.string (t4 ++ th))) rfl (by kernel_rfl) (by kernel_rfl) (by kernel_rfl) (fun _ _ _ h => h) (.inl ⟨by rfl, fun W _ => by obtain ⟨l0, l1, l2⟩ := LEN.out; go_simp⟩) hH ?_
      change wpAnyH _ _ _ _ _ _ _ (Act.put _ (some 114) _) _
      simp only [Act.put, List.setIfInBounds_toArray, List.set_cons_zero, List.set_cons_succ]
      refine wpAnyH_take (i := 17) (v := (.string (ta ++ (t4 ++ th)))) rfl (by kernel_rfl) (by kernel_rfl) (by kernel_rfl) (fun _ _ _ h => h) (.inl ⟨by rfl, fun W _ => by obtain ⟨l0, l1, l2⟩ := LEN.out; go_simp <;> omega⟩) hH ?_
      change wpAnyH _ _ _ _ _ _ _ (Act.put _ (some 115) _) _
      simp only [Act.put, List.setIfInBounds_toArray, List.set_cons_zero, List.set_cons_succ]
      refine wpAnyH_ready (rs := [18]) (by kernel_rfl) (by simp) (AllReadyH.cons rfl (fun K1 hK1 => ?_) AllReadyH.nil)
      go_simp
      refine hK1.out _ _ J2.out (fun hH => ?_)
      clear hK1
      refine wpAnyH_done (by kernel_rfl) ?_ _
      clear hH LEN L4 CX BD
      have cl := CC.out W2 J2.out
      go_wp2
      exact ⟨⟨k + 1, KK.out.1, by go_num, by rw [HA.out], J2⟩, by simpa [intOf] using KK.out.2⟩
    · have h1 : ¬ (k : Int) < (m.items.length : Int) := by omega
      have e9 : m.items.take k = m.items := List.take_of_length_le (by omega)
      rw [e9]
      clear hlt hk e9 HFL
      go_wp2
      go_ret
      exact ⟨rfl, below_next B1.out J.out⟩
theorem pay_10 (m : Mg) (s : Vs) (w : World) (hk : m.kind = 10) (hR : MR w s m) (hn : m.items.length ≤ 500) : Calls Tryz.prog 26 #[.agg (m.cells s).toArray] w fun e w' => e = .returned (.string (txt (countL m.items.length ++ m.items.flatMap Im.bytes))) ∧ Below w.heap.size w w' := by
  have b1 := (Below.refl w.heap.size w).alloc (Nat.le_refl _) (.cells (m.cells s).toArray 50)
  have B1 := hide b1
  have RA := hide (heap_alloc_last w (.cells (m.cells s).toArray 50))
  have ck := (Mc.of (m := m) (s := s) RA.out).f0
  rw [hk] at ck
  obtain ⟨ao, ca, ea⟩ := hR.i.form
  have cl := (Mc.of (m := m) (s := s) RA.out).f12
  rw [ea] at cl
  have XL := hide ((ea ▸ hR.i).below b1)
  have CC : Hid (∀ W, Below (w.alloc (.cells (m.cells s).toArray 50)).heap.size (w.alloc (.cells (m.cells s).toArray 50)) W → W.cell? ⟨w.heap.size, 48, none⟩ = some (.slice ao m.items.length ca)) := fun W b => by
    have := (Mc.of (m := m) (s := s) ((b.block _ (lt_heap RA.out)).trans RA.out)).f12
    rwa [ea] at this
  have LC := hide (fun W => rcount9 m.items.length (by omega) W)
  have HN := hide hn
  have HFL : Hid (∀ k, (txt (countL m.items.length ++ (m.items.take k).flatMap Im.bytes)).size ≤ 9 + 500 * 36) := fun k => by
    have h1 := flat_len Im.bytes 36 (m.items.take k) (fun x hx => Nat.le_of_eq x.bytes_len)
    have h2 : (m.items.take k).length ≤ 500 := by rw [List.length_take]; omega
    have h3 : (m.items.take k).length * 36 ≤ 500 * 36 := Nat.mul_le_mul_right _ h2
    have h4 := countL_9 m.items.length
    rw [txt_sz, List.length_append]
    omega
  clear hk hR hn b1 ea
  go_enter Tryz.func26, Tryz.ntmps26
  go_upto_region 18 with (first | (go_at_call 68; with_reducible refine (LC.out _).mono ?_; rintro e W1 ⟨rfl, be⟩; have J0 := hide be; clear be) | (with_reducible refine at_list ?_; refine wpList_boxA rfl _ rfl (m.cells s).toArray rfl ?_))
  generalize w.alloc (.cells (m.cells s).toArray 50) = A at *
  clear ck cl LC
  go_wp2
  go_loopw [3, 5] (fun t i wq => ∃ k : Nat, k ≤ m.items.length ∧ i = .int .i64 (k : Int) ∧ t = .string (txt (countL m.items.length ++ (m.items.take k).flatMap Im.bytes)) ∧ Hid (Below A.heap.size A wq)) (fun _ i _ => (m.items.length - intOf i).toNat)
  case atStart => exact ⟨0, Nat.zero_le _, rfl, by simp, J0⟩
  case round =>
    clear J0
    obtain ⟨k, hk, rfl, rfl, J⟩ := hrel
    have cl := CC.out wr J.out
    by_cases hlt : k < m.items.length
    · have h1 : (k : Int) < (m.items.length : Int) := by omega
      have h2 : (0 : Int) ≤ (k : Int) := by omega
      have h5 := HN.out
      have e1 : IntKind.i64.wrap ((k : Int) + 1) = k + 1 := wrapI _ (by omega) (by omega)
      have KK := hide (And.intro (show k + 1 ≤ m.items.length by omega) (show ((m.items.length : Int) - ((k : Int) + 1)).toNat < ((m.items.length : Int) - (k : Int)).toNat by omega))
      obtain ⟨ga, oa, rfl⟩ := XL.out.base (by omega)
      have hr : ∀ W, Below A.heap.size A W → W.rangeAt ga (oa + k * 33) m.items[k].cells := fun W b => (XL.out.below b).range k hlt
      have HA : Hid (txt (countL m.items.length ++ (m.items.take (k + 1)).flatMap Im.bytes) = txt (countL m.items.length ++ (m.items.take k).flatMap Im.bytes) ++ (txt (lowL m.items[k].kind.toNat 4) ++ txt m.items[k].hash)) := by
        show _ = _
        rw [flat_snoc Im.bytes m.items k hlt, txt_app, txt_app, List.append_assoc]
        rfl
      have hs := HFL.out k
      generalize txt (countL m.items.length ++ (m.items.take k).flatMap Im.bytes) = ta at *
      generalize m.items[k] = x at *
      clear hlt hk h5
      have hv := x.kind.toNat_lt
      have e4 : IntKind.u64.wrap (x.kind.toNat : Int) = (x.kind.toNat : Int) := wrapu _ (by omega) (by omega)
      have L4 : Hid (∀ W, Calls Tryz.prog 64 #[.int .u64 (x.kind.toNat : Int), .int .i64 4] W fun e w' => e = .returned (.string (txt (lowL (x.kind.toNat) 4))) ∧ Below W.heap.size W w') := fun W => low_any (x.kind.toNat) 4 4 rfl (by unfold U64; omega) W (by decide)
      have CX : Hid (∀ W, Below A.heap.size A W → W.cell? ⟨ga, oa + k * 33, none⟩ = some (.int .u32 (x.kind.toNat : Int)) ∧ (convert 95 9 (.slice (some ⟨ga, oa + k * 33 + 1, none⟩) 32 32)).run Tryz.prog W = .ok (.string (txt x.hash)) W) := fun W b => by
        have h := hr W b
        refine ⟨h 0 _ rfl, conv_mid W ga (oa + k * 33 + 1) x.hash (fun j v hv => ?_) 32 x.hh.symm⟩
        have := h (1 + j) v (by rw [Nat.add_comm]; exact hv)
        rwa [← Nat.add_assoc] at this
      have LEN : Hid (ta.size ≤ 18009 ∧ (txt (lowL x.kind.toNat 4)).size = 4 ∧ (txt x.hash).size = 32) := ⟨by omega, by rw [txt_sz, lowL_len], by rw [txt_sz, x.hh]⟩
      generalize txt (lowL x.kind.toNat 4) = t4 at *
      generalize txt x.hash = th at *
      clear hr hs hv
      go_upto_region 21 with fail
      clear cl
      have BD := hide J.out.drew
      refine wp_region_held_drew (S := fun W => Below A.heap.size A W) (by kernel_rfl) BD.out (fun hH => ?_)
      generalize hWd : wr.drew = W1 at *
      clear hWd
      refine wpAnyH_take (i := 0) (v := (.string ta)) rfl (by kernel_rfl) (by kernel_rfl) (by kernel_rfl) (fun _ _ _ h => h) (yl_move (by rfl) _ (by rfl) _ (by rfl)) hH ?_
      change wpAnyH _ _ _ _ _ _ _ (Act.put _ (some 98) _) _
      simp only [Act.put, List.setIfInBounds_toArray, List.set_cons_zero, List.set_cons_succ]
      refine wpAnyH_take (i := 1) (v := (.pointer (some ⟨w.heap.size, 48, none⟩))) rfl (by kernel_rfl) (by kernel_rfl) (by kernel_rfl) (fun _ _ _ h => h) (.inl ⟨by rfl, fun W _ => by go_simp⟩) hH ?_
      change wpAnyH _ _ _ _ _ _ _ (Act.put _ (some 99) _) _
      simp only [Act.put, List.setIfInBounds_toArray, List.set_cons_zero, List.set_cons_succ]
      refine wpAnyH_take (i := 2) (v := (.slice (some ⟨ga, oa, none⟩) m.items.length ca)) rfl (by kernel_rfl) (by kernel_rfl) (by kernel_rfl) (fun _ _ _ h => h) (.inl ⟨by rfl, fun W hS => by have c4 := (CC.out W hS); go_simp⟩) hH ?_
      change wpAnyH _ _ _ _ _ _ _ (Act.put _ (some 100) _) _
      simp only [Act.put, List.setIfInBounds_toArray, List.set_cons_zero, List.set_cons_succ]
      refine wpAnyH_take (i := 3) (v := (.int .i64 (k : Int))) rfl (by kernel_rfl) (by kernel_rfl) (by kernel_rfl) (fun _ _ _ h => h) (yl_move (by rfl) _ (by rfl) _ (by rfl)) hH ?_
      change wpAnyH _ _ _ _ _ _ _ (Act.put _ (some 101) _) _
      simp only [Act.put, List.setIfInBounds_toArray, List.set_cons_zero, List.set_cons_succ]
      refine wpAnyH_take (i := 4) (v := (.pointer (some ⟨ga, oa + k * 33, none⟩))) rfl (by kernel_rfl) (by kernel_rfl) (by kernel_rfl) (fun _ _ _ h => h) (.inl ⟨by rfl, fun W _ => by go_simp⟩) hH ?_
      change wpAnyH _ _ _ _ _ _ _ (Act.put _ (some 102) _) _
      simp only [Act.put, List.setIfInBounds_toArray, List.set_cons_zero, List.set_cons_succ]
      refine wpAnyH_take (i := 5) (v := (.pointer (some ⟨ga, oa + k * 33, none⟩))) rfl (by kernel_rfl) (by kernel_rfl) (by kernel_rfl) (fun _ _ _ h => h) (.inl ⟨by rfl, fun W _ => by go_simp⟩) hH ?_
      change wpAnyH _ _ _ _ _ _ _ (Act.put _ (some 103) _) _
      simp only [Act.put, List.setIfInBounds_toArray, List.set_cons_zero, List.set_cons_succ]
      refine wpAnyH_take (i := 6) (v := (.int .u32 (x.kind.toNat : Int))) rfl (by kernel_rfl) (by kernel_rfl) (by kernel_rfl) (fun _ _ _ h => h) (.inl ⟨by rfl, fun W hS => by have c4 := (CX.out W hS).1; go_simp⟩) hH ?_
      change wpAnyH _ _ _ _ _ _ _ (Act.put _ (some 104) _) _
      simp only [Act.put, List.setIfInBounds_toArray, List.set_cons_zero, List.set_cons_succ]
      refine wpAnyH_take (i := 7) (v := (.int .u64 (x.kind.toNat : Int))) rfl (by kernel_rfl) (by kernel_rfl) (by kernel_rfl) (fun _ _ _ h => h) (.inl ⟨by rfl, fun W _ => by go_simp⟩) hH ?_
      change wpAnyH _ _ _ _ _ _ _ (Act.put _ (some 105) _) _
      simp only [Act.put, List.setIfInBounds_toArray, List.set_cons_zero, List.set_cons_succ]
      refine wpAnyH_take (i := 9) (v := (.pointer (some ⟨w.heap.size, 48, none⟩))) rfl (by kernel_rfl) (by kernel_rfl) (by kernel_rfl) (fun _ _ _ h => h) (.inl ⟨by rfl, fun W _ => by go_simp⟩) hH ?_
      change wpAnyH _ _ _ _ _ _ _ (Act.put _ (some 107) _) _
      simp only [Act.put, List.setIfInBounds_toArray, List.set_cons_zero, List.set_cons_succ]
      refine wpAnyH_take (i := 10) (v := (.slice (some ⟨ga, oa, none⟩) m.items.length ca)) rfl (by kernel_rfl) (by kernel_rfl) (by kernel_rfl) (fun _ _ _ h => h) (.inl ⟨by rfl, fun W hS => by have c4 := (CC.out W hS); go_simp⟩) hH ?_
      change wpAnyH _ _ _ _ _ _ _ (Act.put _ (some 108) _) _
      simp only [Act.put, List.setIfInBounds_toArray, List.set_cons_zero, List.set_cons_succ]
      refine wpAnyH_take (i := 11) (v := (.int .i64 (k : Int))) rfl (by kernel_rfl) (by kernel_rfl) (by kernel_rfl) (fun _ _ _ h => h) (yl_move (by rfl) _ (by rfl) _ (by rfl)) hH ?_
      change wpAnyH _ _ _ _ _ _ _ (Act.put _ (some 109) _) _
      simp only [Act.put, List.setIfInBounds_toArray, List.set_cons_zero, List.set_cons_succ]
      refine wpAnyH_take (i := 12) (v := (.pointer (some ⟨ga, oa + k * 33, none⟩))) rfl (by kernel_rfl) (by kernel_rfl) (by kernel_rfl) (fun _ _ _ h => h) (.inl ⟨by rfl, fun W _ => by go_simp⟩) hH ?_
      change wpAnyH _ _ _ _ _ _ _ (Act.put _ (some 110) _) _
      simp only [Act.put, List.setIfInBounds_toArray, List.set_cons_zero, List.set_cons_succ]
      refine wpAnyH_take (i := 13) (v := (.pointer (some ⟨ga, oa + k * 33 + 1, none⟩))) rfl (by kernel_rfl) (by kernel_rfl) (by kernel_rfl) (fun _ _ _ h => h) (.inl ⟨by rfl, fun W _ => by go_simp⟩) hH ?_
      change wpAnyH _ _ _ _ _ _ _ (Act.put _ (some 111) _) _
      simp only [Act.put, List.setIfInBounds_toArray, List.set_cons_zero, List.set_cons_succ]
      refine wpAnyH_take (i := 14) (v := (.slice (some ⟨ga, oa + k * 33 + 1, none⟩) 32 32)) rfl (by kernel_rfl) (by kernel_rfl) (by kernel_rfl) (fun _ _ _ h => h) (.inl ⟨by rfl, fun W _ => by go_simp⟩) hH ?_
      change wpAnyH _ _ _ _ _ _ _ (Act.put _ (some 112) _) _
      simp only [Act.put, List.setIfInBounds_toArray, List.set_cons_zero, List.set_cons_succ]
      refine wpAnyH_take (i := 15) (v := (.string th)) rfl (by kernel_rfl) (by kernel_rfl) (by kernel_rfl) (fun _ _ _ h => h) (.inl ⟨by rfl, fun W hS => by have c4 := (CX.out W hS).2; go_simp⟩) hH ?_
      change wpAnyH _ _ _ _ _ _ _ (Act.put _ (some 113) _) _
      simp only [Act.put, List.setIfInBounds_toArray, List.set_cons_zero, List.set_cons_succ]
      refine wpAnyH_ready (rs := [8]) (by kernel_rfl) (by simp) (AllReadyH.cons rfl (fun K1 hK1 => ?_) AllReadyH.nil)
      go_simp
      with_reducible refine (L4.out W1).mono ?_
      rintro e W2 ⟨rfl, be⟩
      have J2 := hide (below_next BD.out be)
      clear be
      refine hK1.out _ _ J2.out (fun hH => ?_)
      clear hK1
      refine wpAnyH_take (i := 16) (v := (.string (t4 ++ th))) rfl (by kernel_rfl) (by kernel_rfl) (by kernel_rfl) (fun _ _ _ h => h) (.inl ⟨by rfl, fun W _ => by obtain ⟨l0, l1, l2⟩ := LEN.out; go_simp⟩) hH ?_
      change wpAnyH _ _ _ _ _ _ _ (Act.put _ (some 114) _) _
      simp only [Act.put, List.setIfInBounds_toArray, List.set_cons_zero, List.set_cons_succ]
      refine wpAnyH_take (i := 17) (v := (.string (ta ++ (t4 ++ th)))) rfl (by kernel_rfl) (by kernel_rfl) (by kernel_rfl) (fun _ _ _ h => h) (.inl ⟨by rfl, fun W _ => by obtain ⟨l0, l1, l2⟩ := LEN.out; go_simp <;> omega⟩) hH ?_
      change wpAnyH _ _ _ _ _ _ _ (Act.put _ (some 115) _) _
      simp only [Act.put, List.setIfInBounds_toArray, List.set_cons_zero, List.set_cons_succ]
      refine wpAnyH_ready (rs := [18]) (by kernel_rfl) (by simp) (AllReadyH.cons rfl (fun K1 hK1 => ?_) AllReadyH.nil)
      go_simp
      refine hK1.out _ _ J2.out (fun hH => ?_)
      clear hK1
      refine wpAnyH_done (by kernel_rfl) ?_ _
      clear hH LEN L4 CX BD
      have cl := CC.out W2 J2.out
      go_wp2
      exact ⟨⟨k + 1, KK.out.1, by go_num, by rw [HA.out], J2⟩, by simpa [intOf] using KK.out.2⟩
    · have h1 : ¬ (k : Int) < (m.items.length : Int) := by omega
      have e9 : m.items.take k = m.items := List.take_of_length_le (by omega)
      rw [e9]
      clear hlt hk e9 HFL
      go_wp2
      go_ret
      exact ⟨rfl, below_next B1.out J.out⟩
theorem pay_11 (m : Mg) (s : Vs) (w : World) (hk : m.kind = 11) (hR : MR w s m) (hn : m.hashes.length ≤ 64) : Calls Tryz.prog 26 #[.agg (m.cells s).toArray] w fun e w' => e = .returned (.string (txt (lowL m.vers.toNat 4 ++ (countL m.hashes.length ++ m.hashes.flatMap (fun x : Id32 => x.1) ++ m.stop.1)))) ∧ Below w.heap.size w w' := by
  have b1 := (Below.refl w.heap.size w).alloc (Nat.le_refl _) (.cells (m.cells s).toArray 50)
  have B1 := hide b1
  have RA := hide (heap_alloc_last w (.cells (m.cells s).toArray 50))
  have ck := (Mc.of (m := m) (s := s) RA.out).f0
  rw [hk] at ck
  obtain ⟨ao, ca, ea⟩ := hR.h.form
  have XL := hide ((ea ▸ hR.h).below b1)
  have CC : Hid (∀ W, Below (w.alloc (.cells (m.cells s).toArray 50)).heap.size (w.alloc (.cells (m.cells s).toArray 50)) W → W.cell? ⟨w.heap.size, 49, none⟩ = some (.slice ao m.hashes.length ca) ∧ W.cell? ⟨w.heap.size, 1, none⟩ = some (.int .u32 (m.vers.toNat : Int)) ∧ (convert 95 9 (.slice (some ⟨w.heap.size, 50, none⟩) 32 32)).run Tryz.prog W = .ok (.string (txt m.stop.1)) W) := fun W b => by
    have h1 := Mc.of (m := m) (s := s) ((b.block _ (lt_heap RA.out)).trans RA.out)
    have h2 := h1.f13
    rw [ea] at h2
    exact ⟨h2, h1.f1, conv_mid W w.heap.size 50 m.stop.1 h1.stop 32 m.stop.2.symm⟩
  have LC := hide (fun W => rcount9 m.hashes.length (by omega) W)
  have HN := hide hn
  have hv := m.vers.toNat_lt
  have e4 : IntKind.u64.wrap (m.vers.toNat : Int) = (m.vers.toNat : Int) := wrapu _ (by omega) (by omega)
  have L4 : Hid (∀ W, Calls Tryz.prog 64 #[.int .u64 (m.vers.toNat : Int), .int .i64 4] W fun e w' => e = .returned (.string (txt (lowL (m.vers.toNat) 4))) ∧ Below W.heap.size W w') := fun W => low_any (m.vers.toNat) 4 4 rfl (by unfold U64; omega) W (by decide)
  have HLT : Hid ((txt (lowL m.vers.toNat 4)).size = 4 ∧ (txt (countL m.hashes.length)).size ≤ 9) := ⟨by rw [txt_sz, lowL_len], by rw [txt_sz]; exact countL_9 _⟩
  have HST : Hid ((txt m.stop.1).size = 32) := by show _ = _; rw [txt_sz, m.stop.2]
  have HAP : Hid (txt (lowL m.vers.toNat 4) ++ txt (countL m.hashes.length) = txt (lowL m.vers.toNat 4 ++ (countL m.hashes.length ++ (m.hashes.take 0).flatMap (fun x : Id32 => x.1)))) := by
    show _ = _
    rw [txt_app]
    simp
  have HEN : Hid (txt (lowL m.vers.toNat 4 ++ (countL m.hashes.length ++ (m.hashes).flatMap (fun x : Id32 => x.1))) ++ txt m.stop.1 = txt (lowL m.vers.toNat 4 ++ (countL m.hashes.length ++ m.hashes.flatMap (fun x : Id32 => x.1) ++ m.stop.1))) := by
    show _ = _
    rw [txt_app]
    simp only [List.append_assoc]
  have HFL : Hid (∀ k, (txt (lowL m.vers.toNat 4 ++ (countL m.hashes.length ++ (m.hashes.take k).flatMap (fun x : Id32 => x.1)))).size ≤ 13 + 64 * 32) := fun k => by
    have h1 := flat_len (fun x : Id32 => x.1) 32 (m.hashes.take k) (fun x hx => Nat.le_of_eq x.2)
    have h2 : (m.hashes.take k).length ≤ 64 := by rw [List.length_take]; omega
    have h3 : (m.hashes.take k).length * 32 ≤ 64 * 32 := Nat.mul_le_mul_right _ h2
    have h4 := countL_9 m.hashes.length
    rw [txt_sz, List.length_append, List.length_append, lowL_len]
    omega
  clear hk hR hn b1 ea hv
  generalize txt (lowL m.vers.toNat 4) = t4 at *
  generalize txt (countL m.hashes.length) = tc at *
  generalize txt m.stop.1 = ts at *
  generalize txt (lowL m.vers.toNat 4 ++ (countL m.hashes.length ++ m.hashes.flatMap (fun x : Id32 => x.1) ++ m.stop.1)) = tf at *
  go_enter Tryz.func26, Tryz.ntmps26
  go_upto_region 23 with (with_reducible refine at_list ?_; refine wpList_boxA rfl _ rfl (m.cells s).toArray rfl ?_)
  generalize w.alloc (.cells (m.cells s).toArray 50) = A at *
  clear ck
  have BD := hide ((Below.refl A.heap.size A).drew)
  refine wp_region_held_drew (S := fun W => Below A.heap.size A W) (by kernel_rfl) BD.out (fun hH => ?_)
  generalize hWd : A.drew = W1 at *
  clear hWd
  refine wpAnyH_take (i := 0) (v := (.pointer (some ⟨w.heap.size, 1, none⟩))) rfl (by kernel_rfl) (by kernel_rfl) (by kernel_rfl) (fun _ _ _ h => h) (.inl ⟨by rfl, fun W _ => by go_simp⟩) hH ?_
  change wpAnyH _ _ _ _ _ _ _ (Act.put _ (some 118) _) _
  simp only [Act.put, List.setIfInBounds_toArray, List.set_cons_zero, List.set_cons_succ]
  refine wpAnyH_take (i := 1) (v := (.int .u32 (m.vers.toNat : Int))) rfl (by kernel_rfl) (by kernel_rfl) (by kernel_rfl) (fun _ _ _ h => h) (.inl ⟨by rfl, fun W hS => by have c4 := (CC.out W hS).2.1; go_simp⟩) hH ?_
  change wpAnyH _ _ _ _ _ _ _ (Act.put _ (some 119) _) _
  simp only [Act.put, List.setIfInBounds_toArray, List.set_cons_zero, List.set_cons_succ]
  refine wpAnyH_take (i := 2) (v := (.int .u64 (m.vers.toNat : Int))) rfl (by kernel_rfl) (by kernel_rfl) (by kernel_rfl) (fun _ _ _ h => h) (.inl ⟨by rfl, fun W _ => by go_simp⟩) hH ?_
  change wpAnyH _ _ _ _ _ _ _ (Act.put _ (some 120) _) _
  simp only [Act.put, List.setIfInBounds_toArray, List.set_cons_zero, List.set_cons_succ]
  refine wpAnyH_take (i := 4) (v := (.pointer (some ⟨w.heap.size, 49, none⟩))) rfl (by kernel_rfl) (by kernel_rfl) (by kernel_rfl) (fun _ _ _ h => h) (.inl ⟨by rfl, fun W _ => by go_simp⟩) hH ?_
  change wpAnyH _ _ _ _ _ _ _ (Act.put _ (some 122) _) _
  simp only [Act.put, List.setIfInBounds_toArray, List.set_cons_zero, List.set_cons_succ]
  refine wpAnyH_take (i := 5) (v := (.slice ao m.hashes.length ca)) rfl (by kernel_rfl) (by kernel_rfl) (by kernel_rfl) (fun _ _ _ h => h) (.inl ⟨by rfl, fun W hS => by have c4 := (CC.out W hS).1; go_simp⟩) hH ?_
  change wpAnyH _ _ _ _ _ _ _ (Act.put _ (some 123) _) _
  simp only [Act.put, List.setIfInBounds_toArray, List.set_cons_zero, List.set_cons_succ]
  refine wpAnyH_take (i := 6) (v := (.int .i64 (m.hashes.length : Int))) rfl (by kernel_rfl) (by kernel_rfl) (by kernel_rfl) (fun _ _ _ h => h) (.inl ⟨by rfl, fun W _ => by go_simp⟩) hH ?_
  change wpAnyH _ _ _ _ _ _ _ (Act.put _ (some 124) _) _
  simp only [Act.put, List.setIfInBounds_toArray, List.set_cons_zero, List.set_cons_succ]
  refine wpAnyH_ready (rs := [3]) (by kernel_rfl) (by simp) (AllReadyH.cons rfl (fun K1 hK1 => ?_) AllReadyH.nil)
  go_simp
  with_reducible refine (L4.out W1).mono ?_
  rintro e W2 ⟨rfl, be⟩
  have C1 := hide (below_next BD.out be)
  clear be
  refine hK1.out _ _ C1.out (fun hH => ?_)
  clear hK1
  refine wpAnyH_ready (rs := [7]) (by kernel_rfl) (by simp) (AllReadyH.cons rfl (fun K1 hK1 => ?_) AllReadyH.nil)
  go_simp
  with_reducible refine (LC.out W2).mono ?_
  rintro e W3 ⟨rfl, be⟩
  have J0 := hide (below_next C1.out be)
  clear be
  refine hK1.out _ _ J0.out (fun hH => ?_)
  clear hK1
  refine wpAnyH_take (i := 8) (v := (.string (t4 ++ tc))) rfl (by kernel_rfl) (by kernel_rfl) (by kernel_rfl) (fun _ _ _ h => h) (.inl ⟨by rfl, fun W _ => by obtain ⟨l1, l2⟩ := HLT.out; go_simp <;> omega⟩) hH ?_
  change wpAnyH _ _ _ _ _ _ _ (Act.put _ (some 126) _) _
  simp only [Act.put, List.setIfInBounds_toArray, List.set_cons_zero, List.set_cons_succ]
  refine wpAnyH_ready (rs := [9]) (by kernel_rfl) (by simp) (AllReadyH.cons rfl (fun K1 hK1 => ?_) AllReadyH.nil)
  go_simp
  refine hK1.out _ _ J0.out (fun hH => ?_)
  clear hK1
  refine wpAnyH_done (by kernel_rfl) ?_ _
  clear hH LC BD HLT L4 C1 e4
  go_wp2
  go_loopw [3, 6] (fun t i wq => ∃ k : Nat, k ≤ m.hashes.length ∧ i = .int .i64 (k : Int) ∧ t = .string (txt (lowL m.vers.toNat 4 ++ (countL m.hashes.length ++ (m.hashes.take k).flatMap (fun x : Id32 => x.1)))) ∧ wq = W3) (fun _ i _ => (m.hashes.length - intOf i).toNat)
  case atStart => exact ⟨0, Nat.zero_le _, rfl, by rw [HAP.out], rfl⟩
  case round =>
    clear HAP
    obtain ⟨k, hk, rfl, rfl, rfl⟩ := hrel
    have cl := (CC.out wr J0.out).1
    by_cases hlt : k < m.hashes.length
    · have h1 : (k : Int) < (m.hashes.length : Int) := by omega
      have h2 : (0 : Int) ≤ (k : Int) := by omega
      have h5 := HN.out
      have e1 : IntKind.i64.wrap ((k : Int) + 1) = k + 1 := wrapI _ (by omega) (by omega)
      have KK := hide (And.intro (show k + 1 ≤ m.hashes.length by omega) (show ((m.hashes.length : Int) - ((k : Int) + 1)).toNat < ((m.hashes.length : Int) - (k : Int)).toNat by omega))
      obtain ⟨ga, oa, rfl⟩ := XL.out.base (by omega)
      have hr : wr.rangeAt ga (oa + k * 32) (cellsL m.hashes[k].1) := (XL.out.below J0.out).range k hlt
      have HA : Hid (txt (lowL m.vers.toNat 4 ++ (countL m.hashes.length ++ (m.hashes.take (k + 1)).flatMap (fun x : Id32 => x.1))) = txt (lowL m.vers.toNat 4 ++ (countL m.hashes.length ++ (m.hashes.take k).flatMap (fun x : Id32 => x.1))) ++ txt m.hashes[k].1) := by
        show _ = _
        rw [flat_snoc (fun x : Id32 => x.1) m.hashes k hlt, txt_app]
        simp only [List.append_assoc]
      have cv := conv_mid wr ga (oa + k * 32) m.hashes[k].1 hr 32 m.hashes[k].2.symm
      have hs := HFL.out k
      have hz : (txt m.hashes[k].1).size = 32 := by rw [txt_sz, m.hashes[k].2]
      rw [show (⟨m.hashes[k].1.toArray⟩ : ByteArray) = txt m.hashes[k].1 from rfl] at cv
      generalize txt (lowL m.vers.toNat 4 ++ (countL m.hashes.length ++ (m.hashes.take k).flatMap (fun x : Id32 => x.1))) = ta at *
      generalize txt m.hashes[k].1 = tx at *
      have z1 : ta.size + tx.size ≤ 9223372036854775807 := by omega
      clear hlt hk h5 hr hs
      go_wp2
      exact ⟨⟨k + 1, KK.out.1, by go_num, by rw [HA.out], trivial⟩, by simpa [intOf] using KK.out.2⟩
    · have h1 : ¬ (k : Int) < (m.hashes.length : Int) := by omega
      have e9 : m.hashes.take k = m.hashes := List.take_of_length_le (by omega)
      have hs := HFL.out k
      rw [e9] at hs ⊢
      have cv := (CC.out wr J0.out).2.2
      have hz := HST.out
      generalize txt (lowL m.vers.toNat 4 ++ (countL m.hashes.length ++ (m.hashes).flatMap (fun x : Id32 => x.1))) = ta at *
      have z1 : ta.size + ts.size ≤ 9223372036854775807 := by omega
      clear hlt hk e9 HFL hs
      go_wp2
      go_ret
      exact ⟨by rw [← HEN.out]; rfl, below_next B1.out J0.out⟩
end
end Go.Proofs.YtkoidjaaojmcnaaGreat
