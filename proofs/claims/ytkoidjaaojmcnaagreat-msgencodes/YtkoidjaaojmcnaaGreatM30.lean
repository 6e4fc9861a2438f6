/- The document's Payload: lists of addresses and of heads. -/
import Derived.Test.YtkoidjaaojmcnaaGreatM29
namespace Go.Proofs.YtkoidjaaojmcnaaGreat
open Go.RowKit
open Go.Deep
set_option linter.unusedVariables false
set_option linter.unusedSimpArgs false
section
set_option maxRecDepth 10000
set_option maxHeartbeats 8000000
theorem pay_7 (m : Mg) (s : Vs) (w : World) (hk : m.kind = 7) (hR : MR w s m) (hn : m.addrs.length ≤ 100) : Calls Tryz.prog 26 #[.agg (m.cells s).toArray] w fun e w' => e = .returned (.string (txt (countL m.addrs.length ++ m.addrs.flatMap Nt.full))) ∧ Below w.heap.size w w' := by
  have b1 := (Below.refl w.heap.size w).alloc (Nat.le_refl _) (.cells (m.cells s).toArray 50)
  have B1 := hide b1
  have RA := hide (heap_alloc_last w (.cells (m.cells s).toArray 50))
  have MC := hide (Mc.of (m := m) (s := s) RA.out)
  have ck := MC.out.f0
  rw [hk] at ck
  obtain ⟨ao, ca, ea⟩ := hR.a.form
  have cl := MC.out.f11
  rw [ea] at cl
  have XL := hide ((ea ▸ hR.a).below b1)
  have CC : Hid (∀ W, Below (w.alloc (.cells (m.cells s).toArray 50)).heap.size (w.alloc (.cells (m.cells s).toArray 50)) W → W.cell? ⟨w.heap.size, 47, none⟩ = some (.slice ao m.addrs.length ca)) := fun W b => by
    have := (Mc.of (m := m) (s := s) ((b.block _ (lt_heap RA.out)).trans RA.out)).f11
    rwa [ea] at this
  have LC := hide (fun W => rcount9 m.addrs.length (by omega) W)
  have HN := hide hn
  have HLN : ∀ x ∈ m.addrs, (Nt.full x).length ≤ 30 := fun x hx => Nat.le_of_eq x.full_len
  have HFL : Hid (∀ k, (txt (countL m.addrs.length ++ (m.addrs.take k).flatMap Nt.full)).size ≤ 9 + 100 * 30) := fun k => by
    have h1 := flat_len Nt.full 30 (m.addrs.take k) (fun x hx => HLN x (List.mem_of_mem_take hx))
    have h2 : (m.addrs.take k).length ≤ 100 := by rw [List.length_take]; omega
    have h3 : (m.addrs.take k).length * 30 ≤ 100 * 30 := Nat.mul_le_mul_right _ h2
    have h4 := countL_9 m.addrs.length
    rw [txt_sz, List.length_append]
    omega
  have HXL := hide HLN
  clear hk hR hn b1 MC ea HLN
  go_enter Tryz.func26, Tryz.ntmps26
  go_upto_region 10 with (first | (go_at_call 68; with_reducible refine (LC.out _).mono ?_; rintro e W1 ⟨rfl, be⟩; have J0 := hide be; clear be) | (with_reducible refine at_list ?_; refine wpList_boxA rfl _ rfl (m.cells s).toArray rfl ?_))
  generalize w.alloc (.cells (m.cells s).toArray 50) = A at *
  clear ck cl LC
  go_wp2
  go_loopw [3, 4] (fun t i wq => ∃ k : Nat, k ≤ m.addrs.length ∧ i = .int .i64 (k : Int) ∧ t = .string (txt (countL m.addrs.length ++ (m.addrs.take k).flatMap Nt.full)) ∧ Hid (Below A.heap.size A wq)) (fun _ i _ => (m.addrs.length - intOf i).toNat)
  case atStart => exact ⟨0, Nat.zero_le _, rfl, by simp, J0⟩
  case round =>
    clear J0
    obtain ⟨k, hk, rfl, rfl, J⟩ := hrel
    have cl := CC.out wr J.out
    by_cases hlt : k < m.addrs.length
    · have h1 : (k : Int) < (m.addrs.length : Int) := by omega
      have h2 : (0 : Int) ≤ (k : Int) := by omega
      have h5 := HN.out
      have e1 : IntKind.i64.wrap ((k : Int) + 1) = k + 1 := wrapI _ (by omega) (by omega)
      have KK := hide (And.intro (show k + 1 ≤ m.addrs.length by omega) (show ((m.addrs.length : Int) - ((k : Int) + 1)).toNat < ((m.addrs.length : Int) - (k : Int)).toNat by omega))
      have HT := hide (flat_snoc Nt.full m.addrs k hlt)
      obtain ⟨ga, oa, rfl⟩ := XL.out.base (by omega)
      have hr := (XL.out.below J.out).range k hlt
      have hx := HXL.out m.addrs[k] (List.getElem_mem hlt)
      have HA : Hid (txt (countL m.addrs.length ++ (m.addrs.take (k + 1)).flatMap Nt.full) = txt (countL m.addrs.length ++ (m.addrs.take k).flatMap Nt.full) ++ txt (Nt.full m.addrs[k])) := by
        show _ = _
        rw [HT.out, txt_app, List.append_assoc]
      have hs := HFL.out k
      generalize txt (countL m.addrs.length ++ (m.addrs.take k).flatMap Nt.full) = ta at *
      generalize m.addrs[k] = x at *
      clear HT hlt hk h5
      have RG : Hid (wr.rangeAt ga (oa + k * 19) x.cells) := hr
      have CE := hide (rnet_true x wr)
      have SZ : Hid (ta.size ≤ 3009 ∧ (txt x.full).size ≤ 30) := ⟨by omega, by rw [txt_sz]; exact hx⟩
      generalize txt x.full = tx at *
      have z1 : ta.size + tx.size ≤ 9223372036854775807 := by have := SZ.out; omega
      clear hr hx hs
      go_wp2_with (first | (go_at_call 65; with_reducible refine CE.out.mono ?_; rintro e W3 ⟨rfl, be⟩; have J2 := hide (below_next J.out be); clear be) | (with_reducible refine at_list ?_; refine wpLoadNr _ rfl ga (oa + k * 19) rfl x RG.out rfl ?_))
      exact ⟨⟨k + 1, KK.out.1, by go_num, by rw [HA.out], J2⟩, by simpa [intOf] using KK.out.2⟩
    · have h1 : ¬ (k : Int) < (m.addrs.length : Int) := by omega
      have e9 : m.addrs.take k = m.addrs := List.take_of_length_le (by omega)
      rw [e9]
      clear hlt hk e9 HFL HXL
      go_wp2
      go_ret
      exact ⟨rfl, below_next B1.out J.out⟩
theorem pay_12 (m : Mg) (s : Vs) (w : World) (hk : m.kind = 12) (hR : MR w s m) (hn : m.heads.length ≤ 100) (h80 : ∀ x ∈ m.heads, x.size ≤ 80) : Calls Tryz.prog 26 #[.agg (m.cells s).toArray] w fun e w' => e = .returned (.string (txt (countL m.heads.length ++ m.heads.flatMap (fun x : ByteArray => x.data.toList ++ [0])))) ∧ Below w.heap.size w w' := by
  have b1 := (Below.refl w.heap.size w).alloc (Nat.le_refl _) (.cells (m.cells s).toArray 50)
  have B1 := hide b1
  have RA := hide (heap_alloc_last w (.cells (m.cells s).toArray 50))
  have MC := hide (Mc.of (m := m) (s := s) RA.out)
  have ck := MC.out.f0
  rw [hk] at ck
  obtain ⟨ao, ca, ea⟩ := hR.hd.form
  have cl := MC.out.f16
  rw [ea] at cl
  have XL := hide ((ea ▸ hR.hd).below b1)
  have CC : Hid (∀ W, Below (w.alloc (.cells (m.cells s).toArray 50)).heap.size (w.alloc (.cells (m.cells s).toArray 50)) W → W.cell? ⟨w.heap.size, 114, none⟩ = some (.slice ao m.heads.length ca)) := fun W b => by
    have := (Mc.of (m := m) (s := s) ((b.block _ (lt_heap RA.out)).trans RA.out)).f16
    rwa [ea] at this
  have LC := hide (fun W => rcount9 m.heads.length (by omega) W)
  have HN := hide hn
  have HLN : ∀ x ∈ m.heads, ((fun x : ByteArray => x.data.toList ++ [0]) x).length ≤ 81 := fun x hx => by
    have h0 := h80 x hx
    have h1 : x.data.toList.length = x.size := by simp
    simp only [List.length_append, List.length_cons, List.length_nil]
    omega
  have HFL : Hid (∀ k, (txt (countL m.heads.length ++ (m.heads.take k).flatMap (fun x : ByteArray => x.data.toList ++ [0]))).size ≤ 9 + 100 * 81) := fun k => by
    have h1 := flat_len (fun x : ByteArray => x.data.toList ++ [0]) 81 (m.heads.take k) (fun x hx => HLN x (List.mem_of_mem_take hx))
    have h2 : (m.heads.take k).length ≤ 100 := by rw [List.length_take]; omega
    have h3 : (m.heads.take k).length * 81 ≤ 100 * 81 := Nat.mul_le_mul_right _ h2
    have h4 := countL_9 m.heads.length
    rw [txt_sz, List.length_append]
    omega
  have HXL := hide HLN
  clear hk hR hn b1 MC ea HLN h80
  go_enter Tryz.func26, Tryz.ntmps26
  go_upto_region 31 with (first | (go_at_call 68; with_reducible refine (LC.out _).mono ?_; rintro e W1 ⟨rfl, be⟩; have J0 := hide be; clear be) | (with_reducible refine at_list ?_; refine wpList_boxA rfl _ rfl (m.cells s).toArray rfl ?_))
  generalize w.alloc (.cells (m.cells s).toArray 50) = A at *
  clear ck cl LC
  go_wp2
  go_loopw [3, 7] (fun t i wq => ∃ k : Nat, k ≤ m.heads.length ∧ i = .int .i64 (k : Int) ∧ t = .string (txt (countL m.heads.length ++ (m.heads.take k).flatMap (fun x : ByteArray => x.data.toList ++ [0]))) ∧ Hid (Below A.heap.size A wq)) (fun _ i _ => (m.heads.length - intOf i).toNat)
  case atStart => exact ⟨0, Nat.zero_le _, rfl, by simp, J0⟩
  case round =>
    clear J0
    obtain ⟨k, hk, rfl, rfl, J⟩ := hrel
    have cl := CC.out wr J.out
    by_cases hlt : k < m.heads.length
    · have h1 : (k : Int) < (m.heads.length : Int) := by omega
      have h2 : (0 : Int) ≤ (k : Int) := by omega
      have h5 := HN.out
      have e1 : IntKind.i64.wrap ((k : Int) + 1) = k + 1 := wrapI _ (by omega) (by omega)
      have KK := hide (And.intro (show k + 1 ≤ m.heads.length by omega) (show ((m.heads.length : Int) - ((k : Int) + 1)).toNat < ((m.heads.length : Int) - (k : Int)).toNat by omega))
      have HT := hide (flat_snoc (fun x : ByteArray => x.data.toList ++ [0]) m.heads k hlt)
      obtain ⟨ga, oa, rfl⟩ := XL.out.base (by omega)
      have hr := (XL.out.below J.out).range k hlt
      have hx := HXL.out m.heads[k] (List.getElem_mem hlt)
      have HA : Hid (txt (countL m.heads.length ++ (m.heads.take (k + 1)).flatMap (fun x : ByteArray => x.data.toList ++ [0])) = txt (countL m.heads.length ++ (m.heads.take k).flatMap (fun x : ByteArray => x.data.toList ++ [0])) ++ txt ((fun x : ByteArray => x.data.toList ++ [0]) m.heads[k])) := by
        show _ = _
        rw [HT.out, txt_app, List.append_assoc]
      have hs := HFL.out k
      generalize txt (countL m.heads.length ++ (m.heads.take k).flatMap (fun x : ByteArray => x.data.toList ++ [0])) = ta at *
      generalize m.heads[k] = x at *
      clear HT hlt hk h5
      have cc : wr.cell? ⟨ga, oa + k, none⟩ = some (.string x) := by
        have := hr 0 _ rfl
        simpa [KS] using this
      have XE : Hid (txt (x.data.toList ++ [0]) = x ++ txt [0]) := by show _ = _; rw [← txt_app]; rfl
      have z0 : x.size ≤ 80 := by
        have h1 : x.data.toList.length = x.size := by simp
        simp only [List.length_append, List.length_cons, List.length_nil] at hx; omega
      have z2 : ta.size ≤ 8109 := by omega
      have HA2 : Hid (txt (countL m.heads.length ++ (m.heads.take (k + 1)).flatMap (fun x : ByteArray => x.data.toList ++ [0])) = ta ++ (x ++ txt [0])) := by show _ = _; rw [HA.out, ← XE.out]
      clear hr hx hs HA XE
      go_wp2
      exact ⟨⟨k + 1, KK.out.1, by go_num, by rw [HA2.out]; rfl, J⟩, by simpa [intOf] using KK.out.2⟩
    · have h1 : ¬ (k : Int) < (m.heads.length : Int) := by omega
      have e9 : m.heads.take k = m.heads := List.take_of_length_le (by omega)
      rw [e9]
      clear hlt hk e9 HFL HXL
      go_wp2
      go_ret
      exact ⟨rfl, below_next B1.out J.out⟩
end
end Go.Proofs.YtkoidjaaojmcnaaGreat
