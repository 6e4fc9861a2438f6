/- The document's Payload: a compact block. -/
import Derived.Test.YtkoidjaaojmcnaaGreatM32
namespace Go.Proofs.YtkoidjaaojmcnaaGreat
open Go.RowKit
open Go.Deep
set_option linter.unusedVariables false
set_option linter.unusedSimpArgs false
section
set_option maxRecDepth 10000
set_option maxHeartbeats 8000000
theorem pay_16 (m : Mg) (s : Vs) (w : World) (hk : m.kind = 16) (hR : MR w s m) (h80 : m.head.size ≤ 80) (hn : m.shorts.length ≤ 500) (hnf : m.filled.length ≤ 500) (h96 : ∀ x ∈ m.filled, x.raw.size ≤ 4096) (hrp : riseP (-1) (m.filled.map Fd.place)) : Calls Tryz.prog 26 #[.agg (m.cells s).toArray] w fun e w' => e = .returned (.string (txt m.payC)) ∧ Below w.heap.size w w' := by
  have b1 := (Below.refl w.heap.size w).alloc (Nat.le_refl _) (.cells (m.cells s).toArray 50)
  have B1 := hide b1
  have RA := hide (heap_alloc_last w (.cells (m.cells s).toArray 50))
  have ck := (Mc.of (m := m) (s := s) RA.out).f0
  rw [hk] at ck
  obtain ⟨ao, ca, ea⟩ := hR.sh.form
  obtain ⟨af, cf, ef⟩ := hR.f.form
  have XL := hide ((ea ▸ hR.sh).below b1)
  have XF := hide ((ef ▸ hR.f).below b1)
  have CC : Hid (∀ W, Below (w.alloc (.cells (m.cells s).toArray 50)).heap.size (w.alloc (.cells (m.cells s).toArray 50)) W → W.cell? ⟨w.heap.size, 117, none⟩ = some (.slice ao m.shorts.length ca) ∧ W.cell? ⟨w.heap.size, 118, none⟩ = some (.slice af m.filled.length cf) ∧ W.cell? ⟨w.heap.size, 115, none⟩ = some (.string m.head) ∧ W.cell? ⟨w.heap.size, 3, none⟩ = some (.int .u64 (m.nonce.toNat : Int))) := fun W b => by
    have h1 := Mc.of (m := m) (s := s) ((b.block _ (lt_heap RA.out)).trans RA.out)
    have h2 := h1.f19
    have h3 := h1.f20
    rw [ea] at h2
    rw [ef] at h3
    exact ⟨h2, h3, h1.f17, h1.f3⟩
  have LC := hide (fun W => rcount9 m.shorts.length (by omega) W)
  have LF := hide (fun W => rcount9 m.filled.length (by omega) W)
  have HN := hide (And.intro hn hnf)
  have L8 : Hid (∀ W, Calls Tryz.prog 64 #[.int .u64 (m.nonce.toNat : Int), .int .i64 8] W fun e w' => e = .returned (.string (txt (lowL (m.nonce.toNat) 8))) ∧ Below W.heap.size W w') := fun W => low_any (m.nonce.toNat) 8 8 rfl m.nonce.toNat_lt W (by decide)
  have HLT : Hid (m.head.size ≤ 80 ∧ (txt (lowL m.nonce.toNat 8)).size = 8 ∧ (txt (countL m.shorts.length)).size ≤ 9 ∧ (txt (countL m.filled.length)).size ≤ 9) := ⟨h80, by rw [txt_sz, lowL_len], by rw [txt_sz]; exact countL_9 _, by rw [txt_sz]; exact countL_9 _⟩
  have HAP : Hid (m.head ++ txt (lowL m.nonce.toNat 8) ++ txt (countL m.shorts.length) = txt (m.head.data.toList ++ lowL m.nonce.toNat 8 ++ countL m.shorts.length ++ (m.shorts.take 0).flatMap (fun x : UInt64 => lowL x.toNat 6))) := by
    show txt m.head.data.toList ++ txt (lowL m.nonce.toNat 8) ++ txt (countL m.shorts.length) = _
    rw [txt_app, txt_app]
    simp
  have HAQ : Hid (txt (m.head.data.toList ++ lowL m.nonce.toNat 8 ++ countL m.shorts.length ++ (m.shorts).flatMap (fun x : UInt64 => lowL x.toNat 6)) ++ txt (countL m.filled.length) = txt (m.head.data.toList ++ lowL m.nonce.toNat 8 ++ countL m.shorts.length ++ (m.shorts).flatMap (fun x : UInt64 => lowL x.toNat 6) ++ countL m.filled.length ++ fillL (-1) (m.filled.take 0))) := by
    show _ = _
    rw [txt_app]
    simp [fillL]
  have HEN : Hid (txt (m.head.data.toList ++ lowL m.nonce.toNat 8 ++ countL m.shorts.length ++ (m.shorts).flatMap (fun x : UInt64 => lowL x.toNat 6) ++ countL m.filled.length ++ fillL (-1) (m.filled)) = txt m.payC) := by
    show _ = _
    unfold Mg.payC
    simp only [List.append_assoc]
  have HFK : ∀ k, (m.head.data.toList ++ lowL m.nonce.toNat 8 ++ countL m.shorts.length ++ (m.shorts.take k).flatMap (fun x : UInt64 => lowL x.toNat 6)).length ≤ 97 + 500 * 6 := fun k => by
    have h1 := flat_len (fun x : UInt64 => lowL x.toNat 6) 6 (m.shorts.take k) (fun x hx => Nat.le_of_eq (lowL_len _ _))
    have h2 : (m.shorts.take k).length ≤ 500 := by rw [List.length_take]; omega
    have h3 : (m.shorts.take k).length * 6 ≤ 500 * 6 := Nat.mul_le_mul_right _ h2
    have h4 := countL_9 m.shorts.length
    have h5 : m.head.data.toList.length = m.head.size := by simp
    rw [List.length_append, List.length_append, List.length_append, lowL_len]
    omega
  have HFL : Hid (∀ k, (txt (m.head.data.toList ++ lowL m.nonce.toNat 8 ++ countL m.shorts.length ++ (m.shorts.take k).flatMap (fun x : UInt64 => lowL x.toNat 6))).size ≤ 97 + 500 * 6) := fun k => by rw [txt_sz]; exact HFK k
  have HF2 : Hid (∀ k, (txt (m.head.data.toList ++ lowL m.nonce.toNat 8 ++ countL m.shorts.length ++ (m.shorts).flatMap (fun x : UInt64 => lowL x.toNat 6) ++ countL m.filled.length ++ fillL (-1) (m.filled.take k))).size ≤ 106 + 500 * 6 + 500 * 4114) := fun k => by
    have h1 := fillL_len (m.filled.take k) (-1) (fun x hx => h96 x (List.mem_of_mem_take hx))
    have h2 : (m.filled.take k).length ≤ 500 := by rw [List.length_take]; omega
    have h3 : (m.filled.take k).length * 4114 ≤ 500 * 4114 := Nat.mul_le_mul_right _ h2
    have h4 := countL_9 m.filled.length
    have h5 := HFK m.shorts.length
    rw [List.take_length] at h5
    rw [txt_sz, List.length_append, List.length_append]
    omega
  have HXR := hide h96
  have HRP := hide hrp
  clear hk hR hn hnf b1 ea ef h80 h96 hrp HFK
  generalize txt m.payC = tf at *
  generalize txt (lowL m.nonce.toNat 8) = t8 at *
  generalize txt (countL m.shorts.length) = tc at *
  generalize txt (countL m.filled.length) = tcf at *
  go_enter Tryz.func26, Tryz.ntmps26
  go_upto_region 41 with (with_reducible refine at_list ?_; refine wpList_boxA rfl _ rfl (m.cells s).toArray rfl ?_)
  generalize w.alloc (.cells (m.cells s).toArray 50) = A at *
  clear ck
  have BD := hide ((Below.refl A.heap.size A).drew)
  refine wp_region_held_drew (S := fun W => Below A.heap.size A W) (by kernel_rfl) BD.out (fun hH => ?_)
  generalize hWd : A.drew = W1 at *
  clear hWd
  refine wpAnyH_take (i := 0) (v := (.pointer (some ⟨w.heap.size, 115, none⟩))) rfl (by kernel_rfl) (by kernel_rfl) (by kernel_rfl) (fun _ _ _ h => h) (.inl ⟨by rfl, fun W _ => by go_simp⟩) hH ?_
  change wpAnyH _ _ _ _ _ _ _ (Act.put _ (some 184) _) _
  simp only [Act.put, List.setIfInBounds_toArray, List.set_cons_zero, List.set_cons_succ]
  refine wpAnyH_take (i := 1) (v := (.string m.head)) rfl (by kernel_rfl) (by kernel_rfl) (by kernel_rfl) (fun _ _ _ h => h) (.inl ⟨by rfl, fun W hS => by have c4 := (CC.out W hS).2.2.1; go_simp⟩) hH ?_
  change wpAnyH _ _ _ _ _ _ _ (Act.put _ (some 185) _) _
  simp only [Act.put, List.setIfInBounds_toArray, List.set_cons_zero, List.set_cons_succ]
  refine wpAnyH_take (i := 2) (v := (.pointer (some ⟨w.heap.size, 3, none⟩))) rfl (by kernel_rfl) (by kernel_rfl) (by kernel_rfl) (fun _ _ _ h => h) (.inl ⟨by rfl, fun W _ => by go_simp⟩) hH ?_
  change wpAnyH _ _ _ _ _ _ _ (Act.put _ (some 186) _) _
  simp only [Act.put, List.setIfInBounds_toArray, List.set_cons_zero, List.set_cons_succ]
  refine wpAnyH_take (i := 3) (v := (.int .u64 (m.nonce.toNat : Int))) rfl (by kernel_rfl) (by kernel_rfl) (by kernel_rfl) (fun _ _ _ h => h) (.inl ⟨by rfl, fun W hS => by have c4 := (CC.out W hS).2.2.2; go_simp⟩) hH ?_
  change wpAnyH _ _ _ _ _ _ _ (Act.put _ (some 187) _) _
  simp only [Act.put, List.setIfInBounds_toArray, List.set_cons_zero, List.set_cons_succ]
  refine wpAnyH_take (i := 6) (v := (.pointer (some ⟨w.heap.size, 117, none⟩))) rfl (by kernel_rfl) (by kernel_rfl) (by kernel_rfl) (fun _ _ _ h => h) (.inl ⟨by rfl, fun W _ => by go_simp⟩) hH ?_
  change wpAnyH _ _ _ _ _ _ _ (Act.put _ (some 190) _) _
  simp only [Act.put, List.setIfInBounds_toArray, List.set_cons_zero, List.set_cons_succ]
  refine wpAnyH_take (i := 7) (v := (.slice ao m.shorts.length ca)) rfl (by kernel_rfl) (by kernel_rfl) (by kernel_rfl) (fun _ _ _ h => h) (.inl ⟨by rfl, fun W hS => by have c4 := (CC.out W hS).1; go_simp⟩) hH ?_
  change wpAnyH _ _ _ _ _ _ _ (Act.put _ (some 191) _) _
  simp only [Act.put, List.setIfInBounds_toArray, List.set_cons_zero, List.set_cons_succ]
  refine wpAnyH_take (i := 8) (v := (.int .i64 (m.shorts.length : Int))) rfl (by kernel_rfl) (by kernel_rfl) (by kernel_rfl) (fun _ _ _ h => h) (.inl ⟨by rfl, fun W _ => by go_simp⟩) hH ?_
  change wpAnyH _ _ _ _ _ _ _ (Act.put _ (some 192) _) _
  simp only [Act.put, List.setIfInBounds_toArray, List.set_cons_zero, List.set_cons_succ]
  refine wpAnyH_ready (rs := [4]) (by kernel_rfl) (by simp) (AllReadyH.cons rfl (fun K1 hK1 => ?_) AllReadyH.nil)
  go_simp
  with_reducible refine (L8.out W1).mono ?_
  rintro e W2 ⟨rfl, be⟩
  have C1 := hide (below_next BD.out be)
  clear be
  refine hK1.out _ _ C1.out (fun hH => ?_)
  clear hK1
  refine wpAnyH_take (i := 5) (v := (.string (m.head ++ t8))) rfl (by kernel_rfl) (by kernel_rfl) (by kernel_rfl) (fun _ _ _ h => h) (.inl ⟨by rfl, fun W _ => by obtain ⟨l1, l2, l3, l4⟩ := HLT.out; go_simp <;> omega⟩) hH ?_
  change wpAnyH _ _ _ _ _ _ _ (Act.put _ (some 189) _) _
  simp only [Act.put, List.setIfInBounds_toArray, List.set_cons_zero, List.set_cons_succ]
  refine wpAnyH_ready (rs := [9]) (by kernel_rfl) (by simp) (AllReadyH.cons rfl (fun K1 hK1 => ?_) AllReadyH.nil)
  go_simp
  with_reducible refine (LC.out W2).mono ?_
  rintro e W3 ⟨rfl, be⟩
  have J0 := hide (below_next C1.out be)
  clear be
  refine hK1.out _ _ J0.out (fun hH => ?_)
  clear hK1
  refine wpAnyH_take (i := 10) (v := (.string (m.head ++ t8 ++ tc))) rfl (by kernel_rfl) (by kernel_rfl) (by kernel_rfl) (fun _ _ _ h => h) (.inl ⟨by rfl, fun W _ => by obtain ⟨l1, l2, l3, l4⟩ := HLT.out; go_simp <;> omega⟩) hH ?_
  change wpAnyH _ _ _ _ _ _ _ (Act.put _ (some 194) _) _
  simp only [Act.put, List.setIfInBounds_toArray, List.set_cons_zero, List.set_cons_succ]
  refine wpAnyH_ready (rs := [11]) (by kernel_rfl) (by simp) (AllReadyH.cons rfl (fun K1 hK1 => ?_) AllReadyH.nil)
  go_simp
  refine hK1.out _ _ J0.out (fun hH => ?_)
  clear hK1
  refine wpAnyH_done (by kernel_rfl) ?_ _
  clear hH LC BD L8 C1
  go_wp2
  go_loopw [3, 8] (fun t i wq => ∃ k : Nat, k ≤ m.shorts.length ∧ i = .int .i64 (k : Int) ∧ t = .string (txt (m.head.data.toList ++ lowL m.nonce.toNat 8 ++ countL m.shorts.length ++ (m.shorts.take k).flatMap (fun x : UInt64 => lowL x.toNat 6))) ∧ Hid (Below A.heap.size A wq)) (fun _ i _ => (m.shorts.length - intOf i).toNat)
  case atStart => exact ⟨0, Nat.zero_le _, rfl, by rw [HAP.out], J0⟩
  case round =>
    clear HAP J0
    obtain ⟨k, hk, rfl, rfl, J⟩ := hrel
    have cl := (CC.out wr J.out).1
    by_cases hlt : k < m.shorts.length
    · have h1 : (k : Int) < (m.shorts.length : Int) := by omega
      have h2 : (0 : Int) ≤ (k : Int) := by omega
      have h5 := HN.out.1
      have e1 : IntKind.i64.wrap ((k : Int) + 1) = k + 1 := wrapI _ (by omega) (by omega)
      have KK := hide (And.intro (show k + 1 ≤ m.shorts.length by omega) (show ((m.shorts.length : Int) - ((k : Int) + 1)).toNat < ((m.shorts.length : Int) - (k : Int)).toNat by omega))
      obtain ⟨ga, oa, rfl⟩ := XL.out.base (by omega)
      have hr := (XL.out.below J.out).range k hlt
      have HA : Hid (txt (m.head.data.toList ++ lowL m.nonce.toNat 8 ++ countL m.shorts.length ++ (m.shorts.take (k + 1)).flatMap (fun x : UInt64 => lowL x.toNat 6)) = txt (m.head.data.toList ++ lowL m.nonce.toNat 8 ++ countL m.shorts.length ++ (m.shorts.take k).flatMap (fun x : UInt64 => lowL x.toNat 6)) ++ txt (lowL m.shorts[k].toNat 6)) := by
        show _ = _
        rw [flat_snoc (fun x : UInt64 => lowL x.toNat 6) m.shorts k hlt, txt_app]
        simp only [List.append_assoc]
      have cc : wr.cell? ⟨ga, oa + k, none⟩ = some (.int .u64 (m.shorts[k].toNat : Int)) := by
        have := hr 0 _ rfl
        simpa [KU] using this
      have CE : Hid (∀ W, Calls Tryz.prog 64 #[.int .u64 (m.shorts[k].toNat : Int), .int .i64 6] W fun e w' => e = .returned (.string (txt (lowL (m.shorts[k].toNat) 6))) ∧ Below W.heap.size W w') := fun W => low_any (m.shorts[k].toNat) 6 6 rfl m.shorts[k].toNat_lt W (by decide)
      have SZ : Hid ((txt (m.head.data.toList ++ lowL m.nonce.toNat 8 ++ countL m.shorts.length ++ (m.shorts.take k).flatMap (fun x : UInt64 => lowL x.toNat 6))).size ≤ 97 + 500 * 6 ∧ (txt (lowL m.shorts[k].toNat 6)).size = 6) := ⟨HFL.out k, by rw [txt_sz, lowL_len]⟩
      generalize txt (m.head.data.toList ++ lowL m.nonce.toNat 8 ++ countL m.shorts.length ++ (m.shorts.take k).flatMap (fun x : UInt64 => lowL x.toNat 6)) = ta at *
      generalize txt (lowL m.shorts[k].toNat 6) = tx at *
      generalize m.shorts[k] = x at *
      have z1 : ta.size + tx.size ≤ 9223372036854775807 := by have := SZ.out; omega
      clear hr hlt hk h5
      go_wp2_with (go_at_call 64; with_reducible refine (CE.out _).mono ?_; rintro e W4 ⟨rfl, be⟩; have J2 := hide (below_next J.out be); clear be)
      exact ⟨⟨k + 1, KK.out.1, by go_num, by rw [HA.out], J2⟩, by simpa [intOf] using KK.out.2⟩
    · have h1 : ¬ (k : Int) < (m.shorts.length : Int) := by omega
      have e9 : m.shorts.take k = m.shorts := List.take_of_length_le (by omega)
      have hs := HFL.out k
      rw [e9] at hs ⊢
      have cf2 := (CC.out wr J.out).2.1
      have z1 : (txt (m.head.data.toList ++ lowL m.nonce.toNat 8 ++ countL m.shorts.length ++ (m.shorts).flatMap (fun x : UInt64 => lowL x.toNat 6))).size + tcf.size ≤ 9223372036854775807 := by have := HLT.out; omega
      generalize htb : txt (m.head.data.toList ++ lowL m.nonce.toNat 8 ++ countL m.shorts.length ++ (m.shorts).flatMap (fun x : UInt64 => lowL x.toNat 6)) = tb at *
      clear hlt hk e9 HFL hs HLT
      go_upto_region 47 with (go_at_call 68; with_reducible refine (LF.out _).mono ?_; rintro e W4 ⟨rfl, be⟩; have J3 := hide (below_next J.out be); clear be)
      clear cl h1 cf2 z1 J LF XL
      go_wp2
      go_loopw [3, 9, 10] (fun t a i wq => ∃ k : Nat, k ≤ m.filled.length ∧ i = .int .i64 (k : Int) ∧ a = .int .i64 (lastP (-1) ((m.filled.map Fd.place).take k)) ∧ t = .string (txt (m.head.data.toList ++ lowL m.nonce.toNat 8 ++ countL m.shorts.length ++ (m.shorts).flatMap (fun x : UInt64 => lowL x.toNat 6) ++ countL m.filled.length ++ fillL (-1) (m.filled.take k))) ∧ Hid (Below A.heap.size A wq)) (fun _ _ i _ => (m.filled.length - intOf i).toNat)
      case atStart => exact ⟨0, Nat.zero_le _, rfl, rfl, by rw [HAQ.out], J3⟩
      case round =>
        clear HAQ J3
        obtain ⟨k, hk, rfl, rfl, rfl, J⟩ := hrel
        have cl := (CC.out wr J.out).2.1
        by_cases hlt : k < m.filled.length
        · have h1 : (k : Int) < (m.filled.length : Int) := by omega
          have h2 : (0 : Int) ≤ (k : Int) := by omega
          have h5 := HN.out.2
          have e1 : IntKind.i64.wrap ((k : Int) + 1) = k + 1 := wrapI _ (by omega) (by omega)
          have KK := hide (And.intro (show k + 1 ≤ m.filled.length by omega) (show ((m.filled.length : Int) - ((k : Int) + 1)).toNat < ((m.filled.length : Int) - (k : Int)).toNat by omega))
          obtain ⟨ga, oa, rfl⟩ := XF.out.base (by omega)
          have hlm : k < (m.filled.map Fd.place).length := by simpa using hlt
          have LS := hide (lastP_snoc (-1) (m.filled.map Fd.place) k hlm)
          have hq := riseP_at (m.filled.map Fd.place) (-1) k hlm HRP.out (by decide)
          rw [List.getElem_map] at LS hq
          have HA : Hid (txt (m.head.data.toList ++ lowL m.nonce.toNat 8 ++ countL m.shorts.length ++ (m.shorts).flatMap (fun x : UInt64 => lowL x.toNat 6) ++ countL m.filled.length ++ fillL (-1) (m.filled.take (k + 1))) = txt (m.head.data.toList ++ lowL m.nonce.toNat 8 ++ countL m.shorts.length ++ (m.shorts).flatMap (fun x : UInt64 => lowL x.toNat 6) ++ countL m.filled.length ++ fillL (-1) (m.filled.take k)) ++ (txt (gapL (lastP (-1) ((m.filled.map Fd.place).take k)) m.filled[k].place) ++ txt (rawL m.filled[k].raw))) := by
            show _ = _
            rw [← List.take_append_getElem hlt, fillL_app, txt_app, txt_app, List.map_take]
            simp only [List.append_assoc]
          have ha : ∃ n : Nat, n ≤ 70000 ∧ m.filled[k].place - lastP (-1) ((m.filled.map Fd.place).take k) - 1 = (n : Int) ∧ gapL (lastP (-1) ((m.filled.map Fd.place).take k)) m.filled[k].place = countL n := ⟨(m.filled[k].place - lastP (-1) ((m.filled.map Fd.place).take k) - 1).toNat, by omega, by omega, rfl⟩
          obtain ⟨n, hn, hg, hG⟩ := ha
          rw [hG] at HA
          have hx := HXR.out m.filled[k] (List.getElem_mem hlt)
          have CE := hide (fun W => rcount9 n (by omega) W)
          have CR := hide (fun W => rraw_any m.filled[k].raw hx W)
          have SZ : Hid ((txt (m.head.data.toList ++ lowL m.nonce.toNat 8 ++ countL m.shorts.length ++ (m.shorts).flatMap (fun x : UInt64 => lowL x.toNat 6) ++ countL m.filled.length ++ fillL (-1) (m.filled.take k))).size ≤ 106 + 500 * 6 + 500 * 4114 ∧ (txt (countL n)).size ≤ 9 ∧ (txt (rawL m.filled[k].raw)).size ≤ 4105) := ⟨HF2.out k, by rw [txt_sz]; exact countL_9 _, by rw [txt_sz]; exact rawL_len _ hx⟩
          have CX : Hid (∀ W, Below A.heap.size A W → W.cell? ⟨ga, oa + k * 2, none⟩ = some (.int .i64 m.filled[k].place) ∧ W.cell? ⟨ga, oa + k * 2 + 1, none⟩ = some (.string m.filled[k].raw)) := fun W b => by
            have h := (XF.out.below b).range k hlt
            exact ⟨h 0 _ rfl, h 1 _ rfl⟩
          generalize txt (m.head.data.toList ++ lowL m.nonce.toNat 8 ++ countL m.shorts.length ++ (m.shorts).flatMap (fun x : UInt64 => lowL x.toNat 6) ++ countL m.filled.length ++ fillL (-1) (m.filled.take k)) = ta at *
          generalize txt (countL n) = tx at *
          generalize txt (rawL m.filled[k].raw) = ty at *
          generalize m.filled[k] = x at *
          generalize lastP (-1) ((m.filled.map Fd.place).take k) = la at *
          have g1 : IntKind.i64.wrap (x.place - la) = x.place - la := wrapI _ (by omega) (by omega)
          have g2 : IntKind.i64.wrap (x.place - la - 1) = n := by rw [hg]; exact wrapI _ (by omega) (by omega)
          clear hq hlt hk h5 hG hg hn hx hlm
          go_upto_region 51 with fail
          clear cl
          have BD := hide J.out.drew
          refine wp_region_held_drew (S := fun W => Below A.heap.size A W) (by kernel_rfl) BD.out (fun hH => ?_)
          generalize hWd : wr.drew = V1 at *
          clear hWd
          refine wpAnyH_take (i := 0) (v := (.string ta)) rfl (by kernel_rfl) (by kernel_rfl) (by kernel_rfl) (fun _ _ _ h => h) (yl_move (by rfl) _ (by rfl) _ (by rfl)) hH ?_
          change wpAnyH _ _ _ _ _ _ _ (Act.put _ (some 223) _) _
          simp only [Act.put, List.setIfInBounds_toArray, List.set_cons_zero, List.set_cons_succ]
          refine wpAnyH_take (i := 1) (v := (.pointer (some ⟨w.heap.size, 118, none⟩))) rfl (by kernel_rfl) (by kernel_rfl) (by kernel_rfl) (fun _ _ _ h => h) (.inl ⟨by rfl, fun W _ => by go_simp⟩) hH ?_
          change wpAnyH _ _ _ _ _ _ _ (Act.put _ (some 224) _) _
          simp only [Act.put, List.setIfInBounds_toArray, List.set_cons_zero, List.set_cons_succ]
          refine wpAnyH_take (i := 2) (v := (.slice (some ⟨ga, oa, none⟩) m.filled.length cf)) rfl (by kernel_rfl) (by kernel_rfl) (by kernel_rfl) (fun _ _ _ h => h) (.inl ⟨by rfl, fun W hS => by have c4 := (CC.out W hS).2.1; go_simp⟩) hH ?_
          change wpAnyH _ _ _ _ _ _ _ (Act.put _ (some 225) _) _
          simp only [Act.put, List.setIfInBounds_toArray, List.set_cons_zero, List.set_cons_succ]
          refine wpAnyH_take (i := 3) (v := (.int .i64 (k : Int))) rfl (by kernel_rfl) (by kernel_rfl) (by kernel_rfl) (fun _ _ _ h => h) (yl_move (by rfl) _ (by rfl) _ (by rfl)) hH ?_
          change wpAnyH _ _ _ _ _ _ _ (Act.put _ (some 226) _) _
          simp only [Act.put, List.setIfInBounds_toArray, List.set_cons_zero, List.set_cons_succ]
          refine wpAnyH_take (i := 4) (v := (.pointer (some ⟨ga, oa + k * 2, none⟩))) rfl (by kernel_rfl) (by kernel_rfl) (by kernel_rfl) (fun _ _ _ h => h) (.inl ⟨by rfl, fun W _ => by go_simp⟩) hH ?_
          change wpAnyH _ _ _ _ _ _ _ (Act.put _ (some 227) _) _
          simp only [Act.put, List.setIfInBounds_toArray, List.set_cons_zero, List.set_cons_succ]
          refine wpAnyH_take (i := 5) (v := (.pointer (some ⟨ga, oa + k * 2, none⟩))) rfl (by kernel_rfl) (by kernel_rfl) (by kernel_rfl) (fun _ _ _ h => h) (.inl ⟨by rfl, fun W _ => by go_simp⟩) hH ?_
          change wpAnyH _ _ _ _ _ _ _ (Act.put _ (some 228) _) _
          simp only [Act.put, List.setIfInBounds_toArray, List.set_cons_zero, List.set_cons_succ]
          refine wpAnyH_take (i := 6) (v := (.int .i64 x.place)) rfl (by kernel_rfl) (by kernel_rfl) (by kernel_rfl) (fun _ _ _ h => h) (.inl ⟨by rfl, fun W hS => by have c4 := (CX.out W hS).1; go_simp⟩) hH ?_
          change wpAnyH _ _ _ _ _ _ _ (Act.put _ (some 229) _) _
          simp only [Act.put, List.setIfInBounds_toArray, List.set_cons_zero, List.set_cons_succ]
          refine wpAnyH_take (i := 7) (v := (.int .i64 la)) rfl (by kernel_rfl) (by kernel_rfl) (by kernel_rfl) (fun _ _ _ h => h) (yl_move (by rfl) _ (by rfl) _ (by rfl)) hH ?_
          change wpAnyH _ _ _ _ _ _ _ (Act.put _ (some 230) _) _
          simp only [Act.put, List.setIfInBounds_toArray, List.set_cons_zero, List.set_cons_succ]
          refine wpAnyH_take (i := 8) (v := (.int .i64 (x.place - la))) rfl (by kernel_rfl) (by kernel_rfl) (by kernel_rfl) (fun _ _ _ h => h) (.inl ⟨by rfl, fun W _ => by go_simp⟩) hH ?_
          change wpAnyH _ _ _ _ _ _ _ (Act.put _ (some 231) _) _
          simp only [Act.put, List.setIfInBounds_toArray, List.set_cons_zero, List.set_cons_succ]
          refine wpAnyH_take (i := 9) (v := (.int .i64 (n : Int))) rfl (by kernel_rfl) (by kernel_rfl) (by kernel_rfl) (fun _ _ _ h => h) (.inl ⟨by rfl, fun W _ => by go_simp⟩) hH ?_
          change wpAnyH _ _ _ _ _ _ _ (Act.put _ (some 232) _) _
          simp only [Act.put, List.setIfInBounds_toArray, List.set_cons_zero, List.set_cons_succ]
          refine wpAnyH_take (i := 11) (v := (.pointer (some ⟨w.heap.size, 118, none⟩))) rfl (by kernel_rfl) (by kernel_rfl) (by kernel_rfl) (fun _ _ _ h => h) (.inl ⟨by rfl, fun W _ => by go_simp⟩) hH ?_
          change wpAnyH _ _ _ _ _ _ _ (Act.put _ (some 234) _) _
          simp only [Act.put, List.setIfInBounds_toArray, List.set_cons_zero, List.set_cons_succ]
          refine wpAnyH_take (i := 12) (v := (.slice (some ⟨ga, oa, none⟩) m.filled.length cf)) rfl (by kernel_rfl) (by kernel_rfl) (by kernel_rfl) (fun _ _ _ h => h) (.inl ⟨by rfl, fun W hS => by have c4 := (CC.out W hS).2.1; go_simp⟩) hH ?_
          change wpAnyH _ _ _ _ _ _ _ (Act.put _ (some 235) _) _
          simp only [Act.put, List.setIfInBounds_toArray, List.set_cons_zero, List.set_cons_succ]
          refine wpAnyH_take (i := 13) (v := (.int .i64 (k : Int))) rfl (by kernel_rfl) (by kernel_rfl) (by kernel_rfl) (fun _ _ _ h => h) (yl_move (by rfl) _ (by rfl) _ (by rfl)) hH ?_
          change wpAnyH _ _ _ _ _ _ _ (Act.put _ (some 236) _) _
          simp only [Act.put, List.setIfInBounds_toArray, List.set_cons_zero, List.set_cons_succ]
          refine wpAnyH_take (i := 14) (v := (.pointer (some ⟨ga, oa + k * 2, none⟩))) rfl (by kernel_rfl) (by kernel_rfl) (by kernel_rfl) (fun _ _ _ h => h) (.inl ⟨by rfl, fun W _ => by go_simp⟩) hH ?_
          change wpAnyH _ _ _ _ _ _ _ (Act.put _ (some 237) _) _
          simp only [Act.put, List.setIfInBounds_toArray, List.set_cons_zero, List.set_cons_succ]
          refine wpAnyH_take (i := 15) (v := (.pointer (some ⟨ga, oa + k * 2 + 1, none⟩))) rfl (by kernel_rfl) (by kernel_rfl) (by kernel_rfl) (fun _ _ _ h => h) (.inl ⟨by rfl, fun W _ => by go_simp⟩) hH ?_
          change wpAnyH _ _ _ _ _ _ _ (Act.put _ (some 238) _) _
          simp only [Act.put, List.setIfInBounds_toArray, List.set_cons_zero, List.set_cons_succ]
          refine wpAnyH_take (i := 16) (v := (.string x.raw)) rfl (by kernel_rfl) (by kernel_rfl) (by kernel_rfl) (fun _ _ _ h => h) (.inl ⟨by rfl, fun W hS => by have c4 := (CX.out W hS).2; go_simp⟩) hH ?_
          change wpAnyH _ _ _ _ _ _ _ (Act.put _ (some 239) _) _
          simp only [Act.put, List.setIfInBounds_toArray, List.set_cons_zero, List.set_cons_succ]
          refine wpAnyH_ready (rs := [10]) (by kernel_rfl) (by simp) (AllReadyH.cons rfl (fun K1 hK1 => ?_) AllReadyH.nil)
          go_simp
          with_reducible refine (CE.out V1).mono ?_
          rintro e V2 ⟨rfl, be⟩
          have D1 := hide (below_next BD.out be)
          clear be
          refine hK1.out _ _ D1.out (fun hH => ?_)
          clear hK1
          refine wpAnyH_ready (rs := [17]) (by kernel_rfl) (by simp) (AllReadyH.cons rfl (fun K1 hK1 => ?_) AllReadyH.nil)
          go_simp
          with_reducible refine (CR.out V2).mono ?_
          rintro e V3 ⟨rfl, be⟩
          have D2 := hide (below_next D1.out be)
          clear be
          refine hK1.out _ _ D2.out (fun hH => ?_)
          clear hK1
          refine wpAnyH_take (i := 18) (v := (.string (tx ++ ty))) rfl (by kernel_rfl) (by kernel_rfl) (by kernel_rfl) (fun _ _ _ h => h) (.inl ⟨by rfl, fun W _ => by obtain ⟨l1, l2, l3⟩ := SZ.out; go_simp <;> omega⟩) hH ?_
          change wpAnyH _ _ _ _ _ _ _ (Act.put _ (some 241) _) _
          simp only [Act.put, List.setIfInBounds_toArray, List.set_cons_zero, List.set_cons_succ]
          refine wpAnyH_take (i := 19) (v := (.string (ta ++ (tx ++ ty)))) rfl (by kernel_rfl) (by kernel_rfl) (by kernel_rfl) (fun _ _ _ h => h) (.inl ⟨by rfl, fun W _ => by obtain ⟨l1, l2, l3⟩ := SZ.out; go_simp <;> omega⟩) hH ?_
          change wpAnyH _ _ _ _ _ _ _ (Act.put _ (some 242) _) _
          simp only [Act.put, List.setIfInBounds_toArray, List.set_cons_zero, List.set_cons_succ]
          refine wpAnyH_ready (rs := [20]) (by kernel_rfl) (by simp) (AllReadyH.cons rfl (fun K1 hK1 => ?_) AllReadyH.nil)
          go_simp
          refine hK1.out _ _ D2.out (fun hH => ?_)
          clear hK1
          refine wpAnyH_done (by kernel_rfl) ?_ _
          have cl2 := (CC.out V3 D2.out).2.1
          have cc2 := (CX.out V3 D2.out).1
          clear hH SZ CE CR CX BD D1 g1 g2
          go_wp2
          exact ⟨⟨k + 1, KK.out.1, by go_num, by rw [LS.out], by rw [HA.out], D2⟩, by simpa [intOf] using KK.out.2⟩
        · have h1 : ¬ (k : Int) < (m.filled.length : Int) := by omega
          have e9 : m.filled.take k = m.filled := List.take_of_length_le (by omega)
          rw [e9]
          clear hlt hk e9 HF2
          rw [HEN.out]
          go_wp2
          go_ret
          exact ⟨rfl, below_next B1.out J.out⟩
end
end Go.Proofs.YtkoidjaaojmcnaaGreat
