/- The document's Payload: places and texts. -/
import Derived.Test.YtkoidjaaojmcnaaGreatM30
namespace Go.Proofs.YtkoidjaaojmcnaaGreat
open Go.RowKit
open Go.Deep
set_option linter.unusedVariables false
set_option linter.unusedSimpArgs false
section
set_option maxRecDepth 10000
set_option maxHeartbeats 8000000
theorem pay_18 (m : Mg) (s : Vs) (w : World) (hk : m.kind = 18) (hR : MR w s m) (hn : m.raws.length ≤ 500) (h96 : ∀ x ∈ m.raws, x.size ≤ 4096) : Calls Tryz.prog 26 #[.agg (m.cells s).toArray] w fun e w' => e = .returned (.string (txt (m.hash.1 ++ (countL m.raws.length ++ m.raws.flatMap rawL)))) ∧ Below w.heap.size w w' := by
  have b1 := (Below.refl w.heap.size w).alloc (Nat.le_refl _) (.cells (m.cells s).toArray 50)
  have B1 := hide b1
  have RA := hide (heap_alloc_last w (.cells (m.cells s).toArray 50))
  have ck := (Mc.of (m := m) (s := s) RA.out).f0
  rw [hk] at ck
  obtain ⟨ao, ca, ea⟩ := hR.r.form
  have XL := hide ((ea ▸ hR.r).below b1)
  have CC : Hid (∀ W, Below (w.alloc (.cells (m.cells s).toArray 50)).heap.size (w.alloc (.cells (m.cells s).toArray 50)) W → W.cell? ⟨w.heap.size, 120, none⟩ = some (.slice ao m.raws.length ca) ∧ (convert 95 9 (.slice (some ⟨w.heap.size, 82, none⟩) 32 32)).run Tryz.prog W = .ok (.string (txt m.hash.1)) W) := fun W b => by
    have h1 := Mc.of (m := m) (s := s) ((b.block _ (lt_heap RA.out)).trans RA.out)
    have h2 := h1.f22
    rw [ea] at h2
    exact ⟨h2, conv_mid W w.heap.size 82 m.hash.1 h1.hash 32 m.hash.2.symm⟩
  have LC := hide (fun W => rcount9 m.raws.length (by omega) W)
  have HN := hide hn
  have HLT : Hid ((txt m.hash.1).size = 32 ∧ (txt (countL m.raws.length)).size ≤ 9) := ⟨by rw [txt_sz, m.hash.2], by rw [txt_sz]; exact countL_9 _⟩
  have HAP : Hid (txt m.hash.1 ++ txt (countL m.raws.length) = txt (m.hash.1 ++ (countL m.raws.length ++ (m.raws.take 0).flatMap rawL))) := by
    show _ = _
    rw [txt_app]
    simp
  have HFL : Hid (∀ k, (txt (m.hash.1 ++ (countL m.raws.length ++ (m.raws.take k).flatMap rawL))).size ≤ 41 + 500 * 4105) := fun k => by
    have h1 := flat_len rawL 4105 (m.raws.take k) (fun x hx => rawL_len x (h96 x (List.mem_of_mem_take hx)))
    have h2 : (m.raws.take k).length ≤ 500 := by rw [List.length_take]; omega
    have h3 : (m.raws.take k).length * 4105 ≤ 500 * 4105 := Nat.mul_le_mul_right _ h2
    have h4 := countL_9 m.raws.length
    have h5 := m.hash.2
    rw [txt_sz, List.length_append, List.length_append]
    omega
  have HXL := hide h96
  clear hk hR hn b1 ea h96
  generalize txt m.hash.1 = th at *
  generalize txt (countL m.raws.length) = tc at *
  go_enter Tryz.func26, Tryz.ntmps26
  go_upto_region 62 with (with_reducible refine at_list ?_; refine wpList_boxA rfl _ rfl (m.cells s).toArray rfl ?_)
  generalize w.alloc (.cells (m.cells s).toArray 50) = A at *
  clear ck
  have BD := hide ((Below.refl A.heap.size A).drew)
  refine wp_region_held_drew (S := fun W => Below A.heap.size A W) (by kernel_rfl) BD.out (fun hH => ?_)
  generalize hWd : A.drew = W1 at *
  clear hWd
  refine wpAnyH_take (i := 0) (v := (.pointer (some ⟨w.heap.size, 82, none⟩))) rfl (by kernel_rfl) (by kernel_rfl) (by kernel_rfl) (fun _ _ _ h => h) (.inl ⟨by rfl, fun W _ => by go_simp⟩) hH ?_
  change wpAnyH _ _ _ _ _ _ _ (Act.put _ (some 284) _) _
  simp only [Act.put, List.setIfInBounds_toArray, List.set_cons_zero, List.set_cons_succ]
  refine wpAnyH_take (i := 1) (v := (.slice (some ⟨w.heap.size, 82, none⟩) 32 32)) rfl (by kernel_rfl) (by kernel_rfl) (by kernel_rfl) (fun _ _ _ h => h) (.inl ⟨by rfl, fun W _ => by go_simp⟩) hH ?_
  change wpAnyH _ _ _ _ _ _ _ (Act.put _ (some 285) _) _
  simp only [Act.put, List.setIfInBounds_toArray, List.set_cons_zero, List.set_cons_succ]
  refine wpAnyH_take (i := 2) (v := (.string th)) rfl (by kernel_rfl) (by kernel_rfl) (by kernel_rfl) (fun _ _ _ h => h) (.inl ⟨by rfl, fun W hS => by have c4 := (CC.out W hS).2; go_simp⟩) hH ?_
  change wpAnyH _ _ _ _ _ _ _ (Act.put _ (some 286) _) _
  simp only [Act.put, List.setIfInBounds_toArray, List.set_cons_zero, List.set_cons_succ]
  refine wpAnyH_take (i := 3) (v := (.pointer (some ⟨w.heap.size, 120, none⟩))) rfl (by kernel_rfl) (by kernel_rfl) (by kernel_rfl) (fun _ _ _ h => h) (.inl ⟨by rfl, fun W _ => by go_simp⟩) hH ?_
  change wpAnyH _ _ _ _ _ _ _ (Act.put _ (some 287) _) _
  simp only [Act.put, List.setIfInBounds_toArray, List.set_cons_zero, List.set_cons_succ]
  refine wpAnyH_take (i := 4) (v := (.slice ao m.raws.length ca)) rfl (by kernel_rfl) (by kernel_rfl) (by kernel_rfl) (fun _ _ _ h => h) (.inl ⟨by rfl, fun W hS => by have c4 := (CC.out W hS).1; go_simp⟩) hH ?_
  change wpAnyH _ _ _ _ _ _ _ (Act.put _ (some 288) _) _
  simp only [Act.put, List.setIfInBounds_toArray, List.set_cons_zero, List.set_cons_succ]
  refine wpAnyH_take (i := 5) (v := (.int .i64 (m.raws.length : Int))) rfl (by kernel_rfl) (by kernel_rfl) (by kernel_rfl) (fun _ _ _ h => h) (.inl ⟨by rfl, fun W _ => by go_simp⟩) hH ?_
  change wpAnyH _ _ _ _ _ _ _ (Act.put _ (some 289) _) _
  simp only [Act.put, List.setIfInBounds_toArray, List.set_cons_zero, List.set_cons_succ]
  refine wpAnyH_ready (rs := [6]) (by kernel_rfl) (by simp) (AllReadyH.cons rfl (fun K1 hK1 => ?_) AllReadyH.nil)
  go_simp
  with_reducible refine (LC.out W1).mono ?_
  rintro e W2 ⟨rfl, be⟩
  have J0 := hide (below_next BD.out be)
  clear be
  refine hK1.out _ _ J0.out (fun hH => ?_)
  clear hK1
  refine wpAnyH_take (i := 7) (v := (.string (th ++ tc))) rfl (by kernel_rfl) (by kernel_rfl) (by kernel_rfl) (fun _ _ _ h => h) (.inl ⟨by rfl, fun W _ => by obtain ⟨l1, l2⟩ := HLT.out; go_simp <;> omega⟩) hH ?_
  change wpAnyH _ _ _ _ _ _ _ (Act.put _ (some 291) _) _
  simp only [Act.put, List.setIfInBounds_toArray, List.set_cons_zero, List.set_cons_succ]
  refine wpAnyH_ready (rs := [8]) (by kernel_rfl) (by simp) (AllReadyH.cons rfl (fun K1 hK1 => ?_) AllReadyH.nil)
  go_simp
  refine hK1.out _ _ J0.out (fun hH => ?_)
  clear hK1
  refine wpAnyH_done (by kernel_rfl) ?_ _
  clear hH LC BD HLT
  go_wp2
  go_loopw [3, 13] (fun t i wq => ∃ k : Nat, k ≤ m.raws.length ∧ i = .int .i64 (k : Int) ∧ t = .string (txt (m.hash.1 ++ (countL m.raws.length ++ (m.raws.take k).flatMap rawL))) ∧ Hid (Below A.heap.size A wq)) (fun _ i _ => (m.raws.length - intOf i).toNat)
  case atStart => exact ⟨0, Nat.zero_le _, rfl, by rw [HAP.out], J0⟩
  case round =>
    clear J0 HAP
    obtain ⟨k, hk, rfl, rfl, J⟩ := hrel
    have cl := (CC.out wr J.out).1
    by_cases hlt : k < m.raws.length
    · have h1 : (k : Int) < (m.raws.length : Int) := by omega
      have h2 : (0 : Int) ≤ (k : Int) := by omega
      have h5 := HN.out
      have e1 : IntKind.i64.wrap ((k : Int) + 1) = k + 1 := wrapI _ (by omega) (by omega)
      have KK := hide (And.intro (show k + 1 ≤ m.raws.length by omega) (show ((m.raws.length : Int) - ((k : Int) + 1)).toNat < ((m.raws.length : Int) - (k : Int)).toNat by omega))
      obtain ⟨ga, oa, rfl⟩ := XL.out.base (by omega)
      have hr := (XL.out.below J.out).range k hlt
      have HA : Hid (txt (m.hash.1 ++ (countL m.raws.length ++ (m.raws.take (k + 1)).flatMap rawL)) = txt (m.hash.1 ++ (countL m.raws.length ++ (m.raws.take k).flatMap rawL)) ++ txt (rawL m.raws[k])) := by
        show _ = _
        rw [flat_snoc rawL m.raws k hlt, txt_app]
        simp only [List.append_assoc]
      have hx := HXL.out m.raws[k] (List.getElem_mem hlt)
      have CE := hide (rraw_any m.raws[k] hx wr)
      have SZ : Hid ((txt (m.hash.1 ++ (countL m.raws.length ++ (m.raws.take k).flatMap rawL))).size ≤ 41 + 500 * 4105 ∧ (txt (rawL m.raws[k])).size ≤ 4105) := ⟨HFL.out k, by rw [txt_sz]; exact rawL_len _ hx⟩
      have cc : wr.cell? ⟨ga, oa + k, none⟩ = some (.string m.raws[k]) := by
        have := hr 0 _ rfl
        simpa [KS] using this
      generalize txt (m.hash.1 ++ (countL m.raws.length ++ (m.raws.take k).flatMap rawL)) = ta at *
      generalize txt (rawL m.raws[k]) = tx at *
      generalize m.raws[k] = x at *
      have z1 : ta.size + tx.size ≤ 9223372036854775807 := by have := SZ.out; omega
      clear hr hx hlt hk h5
      go_wp2_with (go_at_call 66; with_reducible refine CE.out.mono ?_; rintro e W3 ⟨rfl, be⟩; have J2 := hide (below_next J.out be); clear be)
      exact ⟨⟨k + 1, KK.out.1, by go_num, by rw [HA.out], J2⟩, by simpa [intOf] using KK.out.2⟩
    · have h1 : ¬ (k : Int) < (m.raws.length : Int) := by omega
      have e9 : m.raws.take k = m.raws := List.take_of_length_le (by omega)
      rw [e9]
      clear hlt hk e9 HFL HXL
      go_wp2
      go_ret
      exact ⟨rfl, below_next B1.out J.out⟩
/-- What is known at a place of places that rise. -/
theorem riseP_at (L : List Int) : ∀ (a : Int) (k : Nat) (h : k < L.length), riseP a L → -1 ≤ a → -1 ≤ lastP a (L.take k) ∧ lastP a (L.take k) < L[k] ∧ L[k] ≤ 65535 := by
  induction L with
  | nil => intro a k h; exact absurd h (Nat.not_lt_zero _)
  | cons x r ih =>
    intro a k h hr ha
    obtain ⟨h1, h2, h3⟩ := hr
    cases k with
    | zero => exact ⟨ha, h1, h2⟩
    | succ k =>
      have := ih x k (by simpa using h) h3 (by omega)
      simpa [lastP] using this
theorem pay_17 (m : Mg) (s : Vs) (w : World) (hk : m.kind = 17) (hR : MR w s m) (hn : m.places.length ≤ 500) (hr : riseP (-1) m.places) : Calls Tryz.prog 26 #[.agg (m.cells s).toArray] w fun e w' => e = .returned (.string (txt (m.hash.1 ++ (countL m.places.length ++ gapsL (-1) m.places)))) ∧ Below w.heap.size w w' := by
  have b1 := (Below.refl w.heap.size w).alloc (Nat.le_refl _) (.cells (m.cells s).toArray 50)
  have B1 := hide b1
  have RA := hide (heap_alloc_last w (.cells (m.cells s).toArray 50))
  have ck := (Mc.of (m := m) (s := s) RA.out).f0
  rw [hk] at ck
  obtain ⟨ao, ca, ea⟩ := hR.p.form
  have XL := hide ((ea ▸ hR.p).below b1)
  have CC : Hid (∀ W, Below (w.alloc (.cells (m.cells s).toArray 50)).heap.size (w.alloc (.cells (m.cells s).toArray 50)) W → W.cell? ⟨w.heap.size, 119, none⟩ = some (.slice ao m.places.length ca) ∧ (convert 95 9 (.slice (some ⟨w.heap.size, 82, none⟩) 32 32)).run Tryz.prog W = .ok (.string (txt m.hash.1)) W) := fun W b => by
    have h1 := Mc.of (m := m) (s := s) ((b.block _ (lt_heap RA.out)).trans RA.out)
    have h2 := h1.f21
    rw [ea] at h2
    exact ⟨h2, conv_mid W w.heap.size 82 m.hash.1 h1.hash 32 m.hash.2.symm⟩
  have LC := hide (fun W => rcount9 m.places.length (by omega) W)
  have HN := hide hn
  have HLT : Hid ((txt m.hash.1).size = 32 ∧ (txt (countL m.places.length)).size ≤ 9) := ⟨by rw [txt_sz, m.hash.2], by rw [txt_sz]; exact countL_9 _⟩
  have HAP : Hid (txt m.hash.1 ++ txt (countL m.places.length) = txt (m.hash.1 ++ (countL m.places.length ++ gapsL (-1) (m.places.take 0)))) := by
    show _ = _
    rw [txt_app]
    simp [gapsL]
  have HFL : Hid (∀ k, (txt (m.hash.1 ++ (countL m.places.length ++ gapsL (-1) (m.places.take k)))).size ≤ 41 + 500 * 9) := fun k => by
    have h1 := gapsL_len (m.places.take k) (-1)
    have h2 : (m.places.take k).length ≤ 500 := by rw [List.length_take]; omega
    have h3 : (m.places.take k).length * 9 ≤ 500 * 9 := Nat.mul_le_mul_right _ h2
    have h4 := countL_9 m.places.length
    have h5 := m.hash.2
    rw [txt_sz, List.length_append, List.length_append]
    omega
  have HXL := hide hr
  clear hk hR hn b1 ea hr
  generalize txt m.hash.1 = th at *
  generalize txt (countL m.places.length) = tc at *
  go_enter Tryz.func26, Tryz.ntmps26
  go_upto_region 54 with (with_reducible refine at_list ?_; refine wpList_boxA rfl _ rfl (m.cells s).toArray rfl ?_)
  generalize w.alloc (.cells (m.cells s).toArray 50) = A at *
  clear ck
  have BD := hide ((Below.refl A.heap.size A).drew)
  refine wp_region_held_drew (S := fun W => Below A.heap.size A W) (by kernel_rfl) BD.out (fun hH => ?_)
  generalize hWd : A.drew = W1 at *
  clear hWd
  refine wpAnyH_take (i := 0) (v := (.pointer (some ⟨w.heap.size, 82, none⟩))) rfl (by kernel_rfl) (by kernel_rfl) (by kernel_rfl) (fun _ _ _ h => h) (.inl ⟨by rfl, fun W _ => by go_simp⟩) hH ?_
  change wpAnyH _ _ _ _ _ _ _ (Act.put _ (some 251) _) _
  simp only [Act.put, List.setIfInBounds_toArray, List.set_cons_zero, List.set_cons_succ]
  refine wpAnyH_take (i := 1) (v := (.slice (some ⟨w.heap.size, 82, none⟩) 32 32)) rfl (by kernel_rfl) (by kernel_rfl) (by kernel_rfl) (fun _ _ _ h => h) (.inl ⟨by rfl, fun W _ => by go_simp⟩) hH ?_
  change wpAnyH _ _ _ _ _ _ _ (Act.put _ (some 252) _) _
  simp only [Act.put, List.setIfInBounds_toArray, List.set_cons_zero, List.set_cons_succ]
  refine wpAnyH_take (i := 2) (v := (.string th)) rfl (by kernel_rfl) (by kernel_rfl) (by kernel_rfl) (fun _ _ _ h => h) (.inl ⟨by rfl, fun W hS => by have c4 := (CC.out W hS).2; go_simp⟩) hH ?_
  change wpAnyH _ _ _ _ _ _ _ (Act.put _ (some 253) _) _
  simp only [Act.put, List.setIfInBounds_toArray, List.set_cons_zero, List.set_cons_succ]
  refine wpAnyH_take (i := 3) (v := (.pointer (some ⟨w.heap.size, 119, none⟩))) rfl (by kernel_rfl) (by kernel_rfl) (by kernel_rfl) (fun _ _ _ h => h) (.inl ⟨by rfl, fun W _ => by go_simp⟩) hH ?_
  change wpAnyH _ _ _ _ _ _ _ (Act.put _ (some 254) _) _
  simp only [Act.put, List.setIfInBounds_toArray, List.set_cons_zero, List.set_cons_succ]
  refine wpAnyH_take (i := 4) (v := (.slice ao m.places.length ca)) rfl (by kernel_rfl) (by kernel_rfl) (by kernel_rfl) (fun _ _ _ h => h) (.inl ⟨by rfl, fun W hS => by have c4 := (CC.out W hS).1; go_simp⟩) hH ?_
  change wpAnyH _ _ _ _ _ _ _ (Act.put _ (some 255) _) _
  simp only [Act.put, List.setIfInBounds_toArray, List.set_cons_zero, List.set_cons_succ]
  refine wpAnyH_take (i := 5) (v := (.int .i64 (m.places.length : Int))) rfl (by kernel_rfl) (by kernel_rfl) (by kernel_rfl) (fun _ _ _ h => h) (.inl ⟨by rfl, fun W _ => by go_simp⟩) hH ?_
  change wpAnyH _ _ _ _ _ _ _ (Act.put _ (some 256) _) _
  simp only [Act.put, List.setIfInBounds_toArray, List.set_cons_zero, List.set_cons_succ]
  refine wpAnyH_ready (rs := [6]) (by kernel_rfl) (by simp) (AllReadyH.cons rfl (fun K1 hK1 => ?_) AllReadyH.nil)
  go_simp
  with_reducible refine (LC.out W1).mono ?_
  rintro e W2 ⟨rfl, be⟩
  have J0 := hide (below_next BD.out be)
  clear be
  refine hK1.out _ _ J0.out (fun hH => ?_)
  clear hK1
  refine wpAnyH_take (i := 7) (v := (.string (th ++ tc))) rfl (by kernel_rfl) (by kernel_rfl) (by kernel_rfl) (fun _ _ _ h => h) (.inl ⟨by rfl, fun W _ => by obtain ⟨l1, l2⟩ := HLT.out; go_simp <;> omega⟩) hH ?_
  change wpAnyH _ _ _ _ _ _ _ (Act.put _ (some 258) _) _
  simp only [Act.put, List.setIfInBounds_toArray, List.set_cons_zero, List.set_cons_succ]
  refine wpAnyH_ready (rs := [8]) (by kernel_rfl) (by simp) (AllReadyH.cons rfl (fun K1 hK1 => ?_) AllReadyH.nil)
  go_simp
  refine hK1.out _ _ J0.out (fun hH => ?_)
  clear hK1
  refine wpAnyH_done (by kernel_rfl) ?_ _
  clear hH LC BD HLT
  go_wp2
  go_loopw [3, 11, 12] (fun t a i wq => ∃ k : Nat, k ≤ m.places.length ∧ i = .int .i64 (k : Int) ∧ a = .int .i64 (lastP (-1) (m.places.take k)) ∧ t = .string (txt (m.hash.1 ++ (countL m.places.length ++ gapsL (-1) (m.places.take k)))) ∧ Hid (Below A.heap.size A wq)) (fun _ _ i _ => (m.places.length - intOf i).toNat)
  case atStart => exact ⟨0, Nat.zero_le _, rfl, rfl, by rw [HAP.out], J0⟩
  case round =>
    clear J0 HAP
    obtain ⟨k, hk, rfl, rfl, rfl, J⟩ := hrel
    have cl := (CC.out wr J.out).1
    by_cases hlt : k < m.places.length
    · have h1 : (k : Int) < (m.places.length : Int) := by omega
      have h2 : (0 : Int) ≤ (k : Int) := by omega
      have h5 := HN.out
      have e1 : IntKind.i64.wrap ((k : Int) + 1) = k + 1 := wrapI _ (by omega) (by omega)
      have KK := hide (And.intro (show k + 1 ≤ m.places.length by omega) (show ((m.places.length : Int) - ((k : Int) + 1)).toNat < ((m.places.length : Int) - (k : Int)).toNat by omega))
      obtain ⟨ga, oa, rfl⟩ := XL.out.base (by omega)
      have hr := (XL.out.below J.out).range k hlt
      have LS := hide (lastP_snoc (-1) m.places k hlt)
      have HA : Hid (txt (m.hash.1 ++ (countL m.places.length ++ gapsL (-1) (m.places.take (k + 1)))) = txt (m.hash.1 ++ (countL m.places.length ++ gapsL (-1) (m.places.take k))) ++ txt (gapL (lastP (-1) (m.places.take k)) m.places[k])) := by
        show _ = _
        rw [← List.take_append_getElem hlt, gapsL_app, txt_app]
        simp only [List.append_assoc]
      have hq := riseP_at m.places (-1) k hlt HXL.out (by decide)
      have ha : ∃ n : Nat, n ≤ 70000 ∧ m.places[k] - lastP (-1) (m.places.take k) - 1 = (n : Int) ∧ gapL (lastP (-1) (m.places.take k)) m.places[k] = countL n := ⟨(m.places[k] - lastP (-1) (m.places.take k) - 1).toNat, by omega, by omega, rfl⟩
      obtain ⟨n, hn, hg, hG⟩ := ha
      rw [hG] at HA
      have CE := hide (rcount9 n (by omega) wr)
      have SZ : Hid ((txt (m.hash.1 ++ (countL m.places.length ++ gapsL (-1) (m.places.take k)))).size ≤ 41 + 500 * 9 ∧ (txt (countL n)).size ≤ 9) := ⟨HFL.out k, by rw [txt_sz]; exact countL_9 _⟩
      have cc : ∀ W, Below A.heap.size A W → W.cell? ⟨ga, oa + k, none⟩ = some (.int .i64 m.places[k]) := fun W b => by
        have := (XL.out.below b).range k hlt 0 _ rfl
        simpa [KP] using this
      have CL := hide cc
      have cc0 := cc wr J.out
      clear cc
      generalize txt (m.hash.1 ++ (countL m.places.length ++ gapsL (-1) (m.places.take k))) = ta at *
      generalize txt (countL n) = tx at *
      generalize hxk : m.places[k] = x at *
      generalize lastP (-1) (m.places.take k) = la at *
      have g1 : IntKind.i64.wrap (x - la) = x - la := wrapI _ (by omega) (by omega)
      have g2 : IntKind.i64.wrap (x - la - 1) = n := by rw [hg]; exact wrapI _ (by omega) (by omega)
      have z1 : ta.size + tx.size ≤ 9223372036854775807 := by have := SZ.out; omega
      clear hr hq hlt hk h5 hG hg hxk hn
      go_upto_region 60 with (go_at_call 68; with_reducible refine CE.out.mono ?_; rintro e W3 ⟨rfl, be⟩; have J2 := hide (below_next J.out be); clear be)
      have cl2 := (CC.out W3 J2.out).1
      have cc2 := CL.out W3 J2.out
      clear cl cc0 g1 g2 z1
      go_wp2
      exact ⟨⟨k + 1, KK.out.1, by go_num, by rw [LS.out], by rw [HA.out], J2⟩, by simpa [intOf] using KK.out.2⟩
    · have h1 : ¬ (k : Int) < (m.places.length : Int) := by omega
      have e9 : m.places.take k = m.places := List.take_of_length_le (by omega)
      rw [e9]
      clear hlt hk e9 HFL HXL
      go_wp2
      go_ret
      exact ⟨rfl, below_next B1.out J.out⟩
end
end Go.Proofs.YtkoidjaaojmcnaaGreat
