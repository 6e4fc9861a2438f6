/- Lists that are taken out of a payload: takeList, of other kinds. -/
import Derived.Test.YtkoidjaaojmcnaaGreatM42
namespace Go.Proofs.YtkoidjaaojmcnaaGreat
open Go.RowKit
open Go.Deep
set_option linter.unusedVariables false
set_option linter.unusedSimpArgs false
section
set_option maxRecDepth 10000
set_option maxHeartbeats 2000000
theorem take_item (K : Nat → Prop) (I : Nat → World → Prop) (L : List Im) (F : Nat) (fa ca : Array Value) (b : Nat) (t : ByteArray) (R : Nat → List UInt8) (most : Nat) (hn : L.length ≤ most) (h5 : L.length ≤ 65535) (hs : t.size ≤ maxLen) (hb : K b)
    (hG : ∀ k W, I k W → Gr W b t (R k)) (hI : ∀ k W W', I k W → (∀ j, K j → W'.heap[j]? = W.heap[j]?) → I k W')
    (hcf : ∀ W, (callFunc F (fa ++ ca)).run Tryz.prog W = .ok (.enter F (fa ++ ca)) W)
    (hc : ∀ k (h : k < L.length) W, I k W → Calls Tryz.prog F (fa ++ ca) W fun e w' => (∃ x, L[k]? = some x ∧ e = .returned (.agg x.cells.toArray)) ∧ I (k + 1) w' ∧ Rfk K W w')
    (w : World) (hK : ∀ j, K j → j < w.heap.size) (h0 : Gr w b t (countL L.length ++ R 0)) (hI0 : ∀ W, Gr W b t (R 0) → (∀ j, K j → j ≠ b → W.heap[j]? = w.heap[j]?) → I 0 W) :
    Calls Tryz.prog 80 #[pv b t, .int .u64 (most : Int), .func (.func F) fa ca] w fun e w' => ∃ v, e = .returned v ∧ OX KI w' v L ∧ (∀ g, v.ownBlock = some g → w.heap.size ≤ g) ∧ I L.length w' ∧ Rfk K w w' := by
  have r1 := heap_alloc_last w (.cells #[.pointer (some ⟨b, 0, none⟩), .string t] 85)
  have b1 := (Below.refl w.heap.size w).alloc (Nat.le_refl _) (.cells #[.pointer (some ⟨b, 0, none⟩), .string t] 85)
  have sz := b1.size
  have g0 := h0.below b1
  have KB : Hid (∀ j, K j → j < w.heap.size) := hK
  have F0 := hide (Rfk.below (K := K) b1)
  have B0 := hide b1
  unfold pv
  have LE : Hid (L.length ≤ 65535) := h5
  generalize hA : w.alloc (.cells #[.pointer (some ⟨b, 0, none⟩), .string t] 85) = A at *
  have KA : Hid (∀ j, K j → j < A.heap.size) := fun j hj => Nat.lt_of_lt_of_le (hK j hj) sz
  have CC : Hid (∀ W, Rfk K A W → W.cell? ⟨w.heap.size, 0, none⟩ = some (.pointer (some ⟨b, 0, none⟩))) := fun W f => by
    have hW := (f.block _ (lt_heap r1) (fun k => by have := hK _ k; omega)).trans r1
    rw [cell_of_row _ _ _ _ _ _ hW]; rfl
  have c0 := CC.out A (Rfk.below (Below.refl _ _))
  have HC := hide (g0.count L.length most h5 hn hs)
  have HG := hide hG
  have HI := hide hI
  have H0 : Hid (∀ W, Gr W b t (R 0) → Rfr b A W → I 0 W) := fun W g f => hI0 W g (fun j hj hn => (f.block j (Nat.lt_of_lt_of_le (hK j hj) sz) hn).trans (b1.block j (hK j hj)))
  have HF := hide hcf
  have HS := hide hc
  have KBb : Hid (K b) := hb
  clear hn h5 hs hb hG hI hcf hc h0 hI0 r1 b1 g0 hK sz
  go_enter Tryz.func80, Tryz.ntmps80
  go_upto_region 1 with fail
  try rw [hA]
  clear hA
  go_upto_region 3 with (go_at_call 115; with_reducible refine HC.out.mono ?_; rintro e W1 ⟨rfl, g1, f1⟩; have G1 := hide g1; have F1 := hide f1; clear g1 f1)
  have I1 := hide (H0.out _ G1.out F1.out)
  have T1 : Hid (Tl KI K A W1 (.slice none 0 0) (L.take 0)) := by
    show Tl _ _ _ _ _ _
    rw [List.take_zero]
    exact Tl.start (Rfk.of F1.out KBb.out)
  clear G1 F1
  clear HC c0 H0
  go_loopw [7, 12] (fun v i wr => ∃ k : Nat, k ≤ L.length ∧ i = .int .u64 (k : Int) ∧ Hid (Tl KI K A wr v (L.take k)) ∧ Hid (I k wr)) (fun _ i _ => (L.length - intOf i).toNat)
  case atStart => exact ⟨0, Nat.zero_le _, rfl, T1, I1⟩
  case round =>
    clear T1 I1
    obtain ⟨k, hk, rfl, hT, hP⟩ := hrel
    by_cases hlt : k < L.length
    · have h1 : (k : Int) < (L.length : Int) := by omega
      have h2 : (0 : Int) ≤ (k : Int) := by omega
      have e1 : IntKind.u64.wrap ((k : Int) + 1) = k + 1 := wrapu _ (by omega) (by have := LE.out; omega)
      have c1 := CC.out wr hT.out.fr
      have HE := hide (HG.out k wr hP.out).err
      have HK := hide (HS.out k hlt wr hP.out)
      have hcf := HF.out wr
      have NX : Hid (∀ x, L[k]? = some x → L.take (k + 1) = L.take k ++ [x]) := fun x h => by rw [List.take_add_one, h]; rfl
      have LT := hide hlt
      have LK := hide (show (L.take k).length = k by rw [List.length_take]; omega)
      have SZ : Hid (((L.take k).length + 1) * KI.b ≤ 140737488355328 ∧ (L.take k).length + 1 ≤ maxLen) := by
        show _ ∧ _
        rw [LK.out]
        have := LE.out
        refine ⟨?_, by unfold maxLen; omega⟩
        show (k + 1) * 36 ≤ _
        omega
      clear hlt
      go_upto_region 6 with (go_at_call 96; with_reducible refine HE.out.mono ?_; rintro e W2 ⟨rfl, rfl⟩)
      clear c1
      go_upto_region 7 with (first | (with_reducible refine HK.out.mono ?_; rintro e W3 ⟨⟨x, hx, rfl⟩, i3, f3⟩; have T3 := hide (hT.out.call KA.out f3); have I3 := hide i3; have X3 := hide hx; clear i3 f3 hx) | ((with_reducible refine at_list ?_); first | (refine Ek.wpBs1v KI rfl _ rfl x (.agg x.cells.toArray) rfl rfl ?_; have b4 := (Below.refl W3.heap.size W3).alloc (Nat.le_refl _) (.cells (KI.enc x).toArray KI.e); have N4 := hide (one_newX (E := KI) W3 x); have T4 := hide (T3.out.call KA.out (Rfk.below b4)); have I4 := hide (HI.out _ _ _ I3.out (fun j hj => b4.block j (Nat.lt_of_lt_of_le (KA.out j hj) T3.out.fr.size))); clear b4 T3 I3; generalize W3.alloc (.cells (KI.enc x).toArray KI.e) = W4 at *; generalize W3.heap.size = gb at *) | (refine Ek.wpApp1 KI rfl _ _ rfl u7 (L.take k) rfl T4.out.ox ⟨gb, 0, none⟩ x rfl N4.out SZ.out.1 SZ.out.2 ?_; intro v5 W5 o5 n5; have Q5 := hide (T4.out.app o5 n5); have I5 := hide (HI.out _ _ _ I4.out (fun j hj => Q5.out.2 j (KA.out j hj))); clear o5 n5)))
      have T6 : Hid (Tl KI K A W5 v5 (L.take (k + 1))) := by show Tl _ _ _ _ _ _; rw [NX.out _ X3.out]; exact Q5.out.1
      clear HE HK hcf NX Q5 T4 I4 X3
      go_wp2
      go_round
      case rel => exact ⟨k + 1, LT.out, by go_num, T6, I5⟩
      case measure => have := LT.out; simp [intOf]; omega
    · have h1 : ¬ (k : Int) < (L.length : Int) := by omega
      have hkn : k = L.length := by omega
      go_wp2
      go_ret
      refine ⟨_, rfl, ?_, fun g hg => Nat.le_trans B0.out.size (hT.out.far g hg), ?_, F0.out.trans hT.out.fr⟩
      · have := hT.out.ox
        rw [hkn, List.take_length] at this
        exact this
      · rw [← hkn]
        exact hP.out
end
section
set_option maxRecDepth 10000
set_option maxHeartbeats 2000000
theorem take_hash (K : Nat → Prop) (I : Nat → World → Prop) (L : List Id32) (F : Nat) (fa ca : Array Value) (b : Nat) (t : ByteArray) (R : Nat → List UInt8) (most : Nat) (hn : L.length ≤ most) (h5 : L.length ≤ 65535) (hs : t.size ≤ maxLen) (hb : K b)
    (hG : ∀ k W, I k W → Gr W b t (R k)) (hI : ∀ k W W', I k W → (∀ j, K j → W'.heap[j]? = W.heap[j]?) → I k W')
    (hcf : ∀ W, (callFunc F (fa ++ ca)).run Tryz.prog W = .ok (.enter F (fa ++ ca)) W)
    (hc : ∀ k (h : k < L.length) W, I k W → Calls Tryz.prog F (fa ++ ca) W fun e w' => (∃ x, L[k]? = some x ∧ e = .returned (.agg (hc x.1))) ∧ I (k + 1) w' ∧ Rfk K W w')
    (w : World) (hK : ∀ j, K j → j < w.heap.size) (h0 : Gr w b t (countL L.length ++ R 0)) (hI0 : ∀ W, Gr W b t (R 0) → (∀ j, K j → j ≠ b → W.heap[j]? = w.heap[j]?) → I 0 W) :
    Calls Tryz.prog 83 #[pv b t, .int .u64 (most : Int), .func (.func F) fa ca] w fun e w' => ∃ v, e = .returned v ∧ OX KH w' v L ∧ (∀ g, v.ownBlock = some g → w.heap.size ≤ g) ∧ I L.length w' ∧ Rfk K w w' := by
  have r1 := heap_alloc_last w (.cells #[.pointer (some ⟨b, 0, none⟩), .string t] 85)
  have b1 := (Below.refl w.heap.size w).alloc (Nat.le_refl _) (.cells #[.pointer (some ⟨b, 0, none⟩), .string t] 85)
  have sz := b1.size
  have g0 := h0.below b1
  have KB : Hid (∀ j, K j → j < w.heap.size) := hK
  have F0 := hide (Rfk.below (K := K) b1)
  have B0 := hide b1
  unfold pv
  have LE : Hid (L.length ≤ 65535) := h5
  generalize hA : w.alloc (.cells #[.pointer (some ⟨b, 0, none⟩), .string t] 85) = A at *
  have KA : Hid (∀ j, K j → j < A.heap.size) := fun j hj => Nat.lt_of_lt_of_le (hK j hj) sz
  have CC : Hid (∀ W, Rfk K A W → W.cell? ⟨w.heap.size, 0, none⟩ = some (.pointer (some ⟨b, 0, none⟩))) := fun W f => by
    have hW := (f.block _ (lt_heap r1) (fun k => by have := hK _ k; omega)).trans r1
    rw [cell_of_row _ _ _ _ _ _ hW]; rfl
  have c0 := CC.out A (Rfk.below (Below.refl _ _))
  have HC := hide (g0.count L.length most h5 hn hs)
  have HG := hide hG
  have HI := hide hI
  have H0 : Hid (∀ W, Gr W b t (R 0) → Rfr b A W → I 0 W) := fun W g f => hI0 W g (fun j hj hn => (f.block j (Nat.lt_of_lt_of_le (hK j hj) sz) hn).trans (b1.block j (hK j hj)))
  have HF := hide hcf
  have HS := hide hc
  have KBb : Hid (K b) := hb
  clear hn h5 hs hb hG hI hcf hc h0 hI0 r1 b1 g0 hK sz
  go_enter Tryz.func83, Tryz.ntmps83
  go_upto_region 1 with fail
  try rw [hA]
  clear hA
  go_upto_region 3 with (go_at_call 115; with_reducible refine HC.out.mono ?_; rintro e W1 ⟨rfl, g1, f1⟩; have G1 := hide g1; have F1 := hide f1; clear g1 f1)
  have I1 := hide (H0.out _ G1.out F1.out)
  have T1 : Hid (Tl KH K A W1 (.slice none 0 0) (L.take 0)) := by
    show Tl _ _ _ _ _ _
    rw [List.take_zero]
    exact Tl.start (Rfk.of F1.out KBb.out)
  clear G1 F1
  clear HC c0 H0
  go_loopw [7, 12] (fun v i wr => ∃ k : Nat, k ≤ L.length ∧ i = .int .u64 (k : Int) ∧ Hid (Tl KH K A wr v (L.take k)) ∧ Hid (I k wr)) (fun _ i _ => (L.length - intOf i).toNat)
  case atStart => exact ⟨0, Nat.zero_le _, rfl, T1, I1⟩
  case round =>
    clear T1 I1
    obtain ⟨k, hk, rfl, hT, hP⟩ := hrel
    by_cases hlt : k < L.length
    · have h1 : (k : Int) < (L.length : Int) := by omega
      have h2 : (0 : Int) ≤ (k : Int) := by omega
      have e1 : IntKind.u64.wrap ((k : Int) + 1) = k + 1 := wrapu _ (by omega) (by have := LE.out; omega)
      have c1 := CC.out wr hT.out.fr
      have HE := hide (HG.out k wr hP.out).err
      have HK := hide (HS.out k hlt wr hP.out)
      have hcf := HF.out wr
      have NX : Hid (∀ x, L[k]? = some x → L.take (k + 1) = L.take k ++ [x]) := fun x h => by rw [List.take_add_one, h]; rfl
      have LT := hide hlt
      have LK := hide (show (L.take k).length = k by rw [List.length_take]; omega)
      have SZ : Hid (((L.take k).length + 1) * KH.b ≤ 140737488355328 ∧ (L.take k).length + 1 ≤ maxLen) := by
        show _ ∧ _
        rw [LK.out]
        have := LE.out
        refine ⟨?_, by unfold maxLen; omega⟩
        show (k + 1) * 32 ≤ _
        omega
      clear hlt
      go_upto_region 6 with (go_at_call 96; with_reducible refine HE.out.mono ?_; rintro e W2 ⟨rfl, rfl⟩)
      clear c1
      go_upto_region 7 with (first | (with_reducible refine HK.out.mono ?_; rintro e W3 ⟨⟨x, hx, rfl⟩, i3, f3⟩; have T3 := hide (hT.out.call KA.out f3); have I3 := hide i3; have X3 := hide hx; clear i3 f3 hx) | ((with_reducible refine at_list ?_); first | (refine Ek.wpBs1v KH rfl _ rfl x (.agg (hc x.1)) rfl rfl ?_; have b4 := (Below.refl W3.heap.size W3).alloc (Nat.le_refl _) (.cells (KH.enc x).toArray KH.e); have N4 := hide (one_newX (E := KH) W3 x); have T4 := hide (T3.out.call KA.out (Rfk.below b4)); have I4 := hide (HI.out _ _ _ I3.out (fun j hj => b4.block j (Nat.lt_of_lt_of_le (KA.out j hj) T3.out.fr.size))); clear b4 T3 I3; generalize W3.alloc (.cells (KH.enc x).toArray KH.e) = W4 at *; generalize W3.heap.size = gb at *) | (refine Ek.wpApp1 KH rfl _ _ rfl u7 (L.take k) rfl T4.out.ox ⟨gb, 0, none⟩ x rfl N4.out SZ.out.1 SZ.out.2 ?_; intro v5 W5 o5 n5; have Q5 := hide (T4.out.app o5 n5); have I5 := hide (HI.out _ _ _ I4.out (fun j hj => Q5.out.2 j (KA.out j hj))); clear o5 n5)))
      have T6 : Hid (Tl KH K A W5 v5 (L.take (k + 1))) := by show Tl _ _ _ _ _ _; rw [NX.out _ X3.out]; exact Q5.out.1
      clear HE HK hcf NX Q5 T4 I4 X3
      go_wp2
      go_round
      case rel => exact ⟨k + 1, LT.out, by go_num, T6, I5⟩
      case measure => have := LT.out; simp [intOf]; omega
    · have h1 : ¬ (k : Int) < (L.length : Int) := by omega
      have hkn : k = L.length := by omega
      go_wp2
      go_ret
      refine ⟨_, rfl, ?_, fun g hg => Nat.le_trans B0.out.size (hT.out.far g hg), ?_, F0.out.trans hT.out.fr⟩
      · have := hT.out.ox
        rw [hkn, List.take_length] at this
        exact this
      · rw [← hkn]
        exact hP.out
end
section
set_option maxRecDepth 10000
set_option maxHeartbeats 2000000
theorem take_string (K : Nat → Prop) (I : Nat → World → Prop) (L : List ByteArray) (F : Nat) (fa ca : Array Value) (b : Nat) (t : ByteArray) (R : Nat → List UInt8) (most : Nat) (hn : L.length ≤ most) (h5 : L.length ≤ 65535) (hs : t.size ≤ maxLen) (hb : K b)
    (hG : ∀ k W, I k W → Gr W b t (R k)) (hI : ∀ k W W', I k W → (∀ j, K j → W'.heap[j]? = W.heap[j]?) → I k W')
    (hcf : ∀ W, (callFunc F (fa ++ ca)).run Tryz.prog W = .ok (.enter F (fa ++ ca)) W)
    (hc : ∀ k (h : k < L.length) W, I k W → Calls Tryz.prog F (fa ++ ca) W fun e w' => (∃ x, L[k]? = some x ∧ e = .returned (.string x)) ∧ I (k + 1) w' ∧ Rfk K W w')
    (w : World) (hK : ∀ j, K j → j < w.heap.size) (h0 : Gr w b t (countL L.length ++ R 0)) (hI0 : ∀ W, Gr W b t (R 0) → (∀ j, K j → j ≠ b → W.heap[j]? = w.heap[j]?) → I 0 W) :
    Calls Tryz.prog 85 #[pv b t, .int .u64 (most : Int), .func (.func F) fa ca] w fun e w' => ∃ v, e = .returned v ∧ OX KS w' v L ∧ (∀ g, v.ownBlock = some g → w.heap.size ≤ g) ∧ I L.length w' ∧ Rfk K w w' := by
  have r1 := heap_alloc_last w (.cells #[.pointer (some ⟨b, 0, none⟩), .string t] 85)
  have b1 := (Below.refl w.heap.size w).alloc (Nat.le_refl _) (.cells #[.pointer (some ⟨b, 0, none⟩), .string t] 85)
  have sz := b1.size
  have g0 := h0.below b1
  have KB : Hid (∀ j, K j → j < w.heap.size) := hK
  have F0 := hide (Rfk.below (K := K) b1)
  have B0 := hide b1
  unfold pv
  have LE : Hid (L.length ≤ 65535) := h5
  generalize hA : w.alloc (.cells #[.pointer (some ⟨b, 0, none⟩), .string t] 85) = A at *
  have KA : Hid (∀ j, K j → j < A.heap.size) := fun j hj => Nat.lt_of_lt_of_le (hK j hj) sz
  have CC : Hid (∀ W, Rfk K A W → W.cell? ⟨w.heap.size, 0, none⟩ = some (.pointer (some ⟨b, 0, none⟩))) := fun W f => by
    have hW := (f.block _ (lt_heap r1) (fun k => by have := hK _ k; omega)).trans r1
    rw [cell_of_row _ _ _ _ _ _ hW]; rfl
  have c0 := CC.out A (Rfk.below (Below.refl _ _))
  have HC := hide (g0.count L.length most h5 hn hs)
  have HG := hide hG
  have HI := hide hI
  have H0 : Hid (∀ W, Gr W b t (R 0) → Rfr b A W → I 0 W) := fun W g f => hI0 W g (fun j hj hn => (f.block j (Nat.lt_of_lt_of_le (hK j hj) sz) hn).trans (b1.block j (hK j hj)))
  have HF := hide hcf
  have HS := hide hc
  have KBb : Hid (K b) := hb
  clear hn h5 hs hb hG hI hcf hc h0 hI0 r1 b1 g0 hK sz
  go_enter Tryz.func85, Tryz.ntmps85
  go_upto_region 1 with fail
  try rw [hA]
  clear hA
  go_upto_region 3 with (go_at_call 115; with_reducible refine HC.out.mono ?_; rintro e W1 ⟨rfl, g1, f1⟩; have G1 := hide g1; have F1 := hide f1; clear g1 f1)
  have I1 := hide (H0.out _ G1.out F1.out)
  have T1 : Hid (Tl KS K A W1 (.slice none 0 0) (L.take 0)) := by
    show Tl _ _ _ _ _ _
    rw [List.take_zero]
    exact Tl.start (Rfk.of F1.out KBb.out)
  clear G1 F1
  clear HC c0 H0
  go_loopw [7, 12] (fun v i wr => ∃ k : Nat, k ≤ L.length ∧ i = .int .u64 (k : Int) ∧ Hid (Tl KS K A wr v (L.take k)) ∧ Hid (I k wr)) (fun _ i _ => (L.length - intOf i).toNat)
  case atStart => exact ⟨0, Nat.zero_le _, rfl, T1, I1⟩
  case round =>
    clear T1 I1
    obtain ⟨k, hk, rfl, hT, hP⟩ := hrel
    by_cases hlt : k < L.length
    · have h1 : (k : Int) < (L.length : Int) := by omega
      have h2 : (0 : Int) ≤ (k : Int) := by omega
      have e1 : IntKind.u64.wrap ((k : Int) + 1) = k + 1 := wrapu _ (by omega) (by have := LE.out; omega)
      have c1 := CC.out wr hT.out.fr
      have HE := hide (HG.out k wr hP.out).err
      have HK := hide (HS.out k hlt wr hP.out)
      have hcf := HF.out wr
      have NX : Hid (∀ x, L[k]? = some x → L.take (k + 1) = L.take k ++ [x]) := fun x h => by rw [List.take_add_one, h]; rfl
      have LT := hide hlt
      have LK := hide (show (L.take k).length = k by rw [List.length_take]; omega)
      have SZ : Hid (((L.take k).length + 1) * KS.b ≤ 140737488355328 ∧ (L.take k).length + 1 ≤ maxLen) := by
        show _ ∧ _
        rw [LK.out]
        have := LE.out
        refine ⟨?_, by unfold maxLen; omega⟩
        show (k + 1) * 16 ≤ _
        omega
      clear hlt
      go_upto_region 6 with (go_at_call 96; with_reducible refine HE.out.mono ?_; rintro e W2 ⟨rfl, rfl⟩)
      clear c1
      go_upto_region 7 with (first | (with_reducible refine HK.out.mono ?_; rintro e W3 ⟨⟨x, hx, rfl⟩, i3, f3⟩; have T3 := hide (hT.out.call KA.out f3); have I3 := hide i3; have X3 := hide hx; clear i3 f3 hx) | ((with_reducible refine at_list ?_); first | (refine Ek.wpBs1v KS rfl _ rfl x (.string x) rfl rfl ?_; have b4 := (Below.refl W3.heap.size W3).alloc (Nat.le_refl _) (.cells (KS.enc x).toArray KS.e); have N4 := hide (one_newX (E := KS) W3 x); have T4 := hide (T3.out.call KA.out (Rfk.below b4)); have I4 := hide (HI.out _ _ _ I3.out (fun j hj => b4.block j (Nat.lt_of_lt_of_le (KA.out j hj) T3.out.fr.size))); clear b4 T3 I3; generalize W3.alloc (.cells (KS.enc x).toArray KS.e) = W4 at *; generalize W3.heap.size = gb at *) | (refine Ek.wpApp1 KS rfl _ _ rfl u7 (L.take k) rfl T4.out.ox ⟨gb, 0, none⟩ x rfl N4.out SZ.out.1 SZ.out.2 ?_; intro v5 W5 o5 n5; have Q5 := hide (T4.out.app o5 n5); have I5 := hide (HI.out _ _ _ I4.out (fun j hj => Q5.out.2 j (KA.out j hj))); clear o5 n5)))
      have T6 : Hid (Tl KS K A W5 v5 (L.take (k + 1))) := by show Tl _ _ _ _ _ _; rw [NX.out _ X3.out]; exact Q5.out.1
      clear HE HK hcf NX Q5 T4 I4 X3
      go_wp2
      go_round
      case rel => exact ⟨k + 1, LT.out, by go_num, T6, I5⟩
      case measure => have := LT.out; simp [intOf]; omega
    · have h1 : ¬ (k : Int) < (L.length : Int) := by omega
      have hkn : k = L.length := by omega
      go_wp2
      go_ret
      refine ⟨_, rfl, ?_, fun g hg => Nat.le_trans B0.out.size (hT.out.far g hg), ?_, F0.out.trans hT.out.fr⟩
      · have := hT.out.ox
        rw [hkn, List.take_length] at this
        exact this
      · rw [← hkn]
        exact hP.out
end
end Go.Proofs.YtkoidjaaojmcnaaGreat
