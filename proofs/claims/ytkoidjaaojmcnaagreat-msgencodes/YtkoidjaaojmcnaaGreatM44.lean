/- Lists that are taken out of a payload: takeList, of other kinds. Lists that are taken out of a payload, by the function that takes one of each kind. -/
import Derived.Test.YtkoidjaaojmcnaaGreatM42
import Derived.Test.YtkoidjaaojmcnaaGreatM43
namespace Go.Proofs.YtkoidjaaojmcnaaGreat
open Go.RowKit
open Go.Deep
set_option linter.unusedVariables false
set_option linter.unusedSimpArgs false
section
set_option maxRecDepth 10000
set_option maxHeartbeats 2000000
theorem take_uint (K : Nat → Prop) (I : Nat → World → Prop) (L : List UInt64) (F : Nat) (fa ca : Array Value) (b : Nat) (t : ByteArray) (R : Nat → List UInt8) (most : Nat) (hn : L.length ≤ most) (h5 : L.length ≤ 65535) (hs : t.size ≤ maxLen) (hb : K b)
    (hG : ∀ k W, I k W → Gr W b t (R k)) (hI : ∀ k W W', I k W → (∀ j, K j → W'.heap[j]? = W.heap[j]?) → I k W')
    (hcf : ∀ W, (callFunc F (fa ++ ca)).run Tryz.prog W = .ok (.enter F (fa ++ ca)) W)
    (hc : ∀ k (h : k < L.length) W, I k W → Calls Tryz.prog F (fa ++ ca) W fun e w' => (∃ x, L[k]? = some x ∧ e = .returned (.int .u64 (x.toNat : Int))) ∧ I (k + 1) w' ∧ Rfk K W w')
    (w : World) (hK : ∀ j, K j → j < w.heap.size) (h0 : Gr w b t (countL L.length ++ R 0)) (hI0 : ∀ W, Gr W b t (R 0) → (∀ j, K j → j ≠ b → W.heap[j]? = w.heap[j]?) → I 0 W) :
    Calls Tryz.prog 118 #[pv b t, .int .u64 (most : Int), .func (.func F) fa ca] w fun e w' => ∃ v, e = .returned v ∧ OX KU w' v L ∧ (∀ g, v.ownBlock = some g → w.heap.size ≤ g) ∧ I L.length w' ∧ Rfk K w w' := by
  have r1 := heap_alloc_last w (.cells #[.pointer (some ⟨b, 0, none⟩), .string t] 85)
  have b1 := (Below.refl w.heap.size w).alloc (Nat.le_refl _) (.cells #[.pointer (some ⟨b, 0, none⟩), .string t] 85)
  have sz := b1.size
  have g0 := h0.below b1
  have KB : Hid (∀ j, K j → j < w.heap.size) := hK
  have F0 := hide (Rfk.below (K := K) b1)
  have B0 := hide b1
  unfold pv
  have LE : Hid (L.length ≤ 65535) := h5
  generalize hA : w.alloc (.cells #[.pointer (some ⟨b, 0, none⟩), .string t] 85) = A at *
  have KA : Hid (∀ j, K j → j < A.heap.size) := fun j hj => Nat.lt_of_lt_of_le (hK j hj) sz
  have CC : Hid (∀ W, Rfk K A W → W.cell? ⟨w.heap.size, 0, none⟩ = some (.pointer (some ⟨b, 0, none⟩))) := fun W f => by
    have hW := (f.block _ (lt_heap r1) (fun k => by have := hK _ k; omega)).trans r1
    rw [cell_of_row _ _ _ _ _ _ hW]; rfl
  have c0 := CC.out A (Rfk.below (Below.refl _ _))
  have HC := hide (g0.count L.length most h5 hn hs)
  have HG := hide hG
  have HI := hide hI
  have H0 : Hid (∀ W, Gr W b t (R 0) → Rfr b A W → I 0 W) := fun W g f => hI0 W g (fun j hj hn => (f.block j (Nat.lt_of_lt_of_le (hK j hj) sz) hn).trans (b1.block j (hK j hj)))
  have HF := hide hcf
  have HS := hide hc
  have KBb : Hid (K b) := hb
  clear hn h5 hs hb hG hI hcf hc h0 hI0 r1 b1 g0 hK sz
  go_enter Tryz.func118, Tryz.ntmps118
  go_upto_region 1 with fail
  try rw [hA]
  clear hA
  go_upto_region 3 with (go_at_call 115; with_reducible refine HC.out.mono ?_; rintro e W1 ⟨rfl, g1, f1⟩; have G1 := hide g1; have F1 := hide f1; clear g1 f1)
  have I1 := hide (H0.out _ G1.out F1.out)
  have T1 : Hid (Tl KU K A W1 (.slice none 0 0) (L.take 0)) := by
    show Tl _ _ _ _ _ _
    rw [List.take_zero]
    exact Tl.start (Rfk.of F1.out KBb.out)
  clear G1 F1
  clear HC c0 H0
  go_loopw [7, 12] (fun v i wr => ∃ k : Nat, k ≤ L.length ∧ i = .int .u64 (k : Int) ∧ Hid (Tl KU K A wr v (L.take k)) ∧ Hid (I k wr)) (fun _ i _ => (L.length - intOf i).toNat)
  case atStart => exact ⟨0, Nat.zero_le _, rfl, T1, I1⟩
  case round =>
    clear T1 I1
    obtain ⟨k, hk, rfl, hT, hP⟩ := hrel
    by_cases hlt : k < L.length
    · have h1 : (k : Int) < (L.length : Int) := by omega
      have h2 : (0 : Int) ≤ (k : Int) := by omega
      have e1 : IntKind.u64.wrap ((k : Int) + 1) = k + 1 := wrapu _ (by omega) (by have := LE.out; omega)
      have c1 := CC.out wr hT.out.fr
      have HE := hide (HG.out k wr hP.out).err
      have HK := hide (HS.out k hlt wr hP.out)
      have hcf := HF.out wr
      have NX : Hid (∀ x, L[k]? = some x → L.take (k + 1) = L.take k ++ [x]) := fun x h => by rw [List.take_add_one, h]; rfl
      have LT := hide hlt
      have LK := hide (show (L.take k).length = k by rw [List.length_take]; omega)
      have SZ : Hid (((L.take k).length + 1) * KU.b ≤ 140737488355328 ∧ (L.take k).length + 1 ≤ maxLen) := by
        show _ ∧ _
        rw [LK.out]
        have := LE.out
        refine ⟨?_, by unfold maxLen; omega⟩
        show (k + 1) * 8 ≤ _
        omega
      clear hlt
      go_upto_region 6 with (go_at_call 96; with_reducible refine HE.out.mono ?_; rintro e W2 ⟨rfl, rfl⟩)
      clear c1
      go_upto_region 7 with (first | (with_reducible refine HK.out.mono ?_; rintro e W3 ⟨⟨x, hx, rfl⟩, i3, f3⟩; have T3 := hide (hT.out.call KA.out f3); have I3 := hide i3; have X3 := hide hx; clear i3 f3 hx) | ((with_reducible refine at_list ?_); first | (refine Ek.wpBs1v KU rfl _ rfl x (.int .u64 (x.toNat : Int)) rfl rfl ?_; have b4 := (Below.refl W3.heap.size W3).alloc (Nat.le_refl _) (.cells (KU.enc x).toArray KU.e); have N4 := hide (one_newX (E := KU) W3 x); have T4 := hide (T3.out.call KA.out (Rfk.below b4)); have I4 := hide (HI.out _ _ _ I3.out (fun j hj => b4.block j (Nat.lt_of_lt_of_le (KA.out j hj) T3.out.fr.size))); clear b4 T3 I3; generalize W3.alloc (.cells (KU.enc x).toArray KU.e) = W4 at *; generalize W3.heap.size = gb at *) | (refine Ek.wpApp1 KU rfl _ _ rfl u7 (L.take k) rfl T4.out.ox ⟨gb, 0, none⟩ x rfl N4.out SZ.out.1 SZ.out.2 ?_; intro v5 W5 o5 n5; have Q5 := hide (T4.out.app o5 n5); have I5 := hide (HI.out _ _ _ I4.out (fun j hj => Q5.out.2 j (KA.out j hj))); clear o5 n5)))
      have T6 : Hid (Tl KU K A W5 v5 (L.take (k + 1))) := by show Tl _ _ _ _ _ _; rw [NX.out _ X3.out]; exact Q5.out.1
      clear HE HK hcf NX Q5 T4 I4 X3
      go_wp2
      go_round
      case rel => exact ⟨k + 1, LT.out, by go_num, T6, I5⟩
      case measure => have := LT.out; simp [intOf]; omega
    · have h1 : ¬ (k : Int) < (L.length : Int) := by omega
      have hkn : k = L.length := by omega
      go_wp2
      go_ret
      refine ⟨_, rfl, ?_, fun g hg => Nat.le_trans B0.out.size (hT.out.far g hg), ?_, F0.out.trans hT.out.fr⟩
      · have := hT.out.ox
        rw [hkn, List.take_length] at this
        exact this
      · rw [← hkn]
        exact hP.out
end
section
set_option maxRecDepth 10000
set_option maxHeartbeats 2000000
theorem take_int (K : Nat → Prop) (I : Nat → World → Prop) (L : List Int) (F : Nat) (fa ca : Array Value) (b : Nat) (t : ByteArray) (R : Nat → List UInt8) (most : Nat) (hn : L.length ≤ most) (h5 : L.length ≤ 65535) (hs : t.size ≤ maxLen) (hb : K b)
    (hG : ∀ k W, I k W → Gr W b t (R k)) (hI : ∀ k W W', I k W → (∀ j, K j → W'.heap[j]? = W.heap[j]?) → I k W')
    (hcf : ∀ W, (callFunc F (fa ++ ca)).run Tryz.prog W = .ok (.enter F (fa ++ ca)) W)
    (hc : ∀ k (h : k < L.length) W, I k W → Calls Tryz.prog F (fa ++ ca) W fun e w' => (∃ x, L[k]? = some x ∧ e = .returned (.int .i64 x)) ∧ I (k + 1) w' ∧ Rfk K W w')
    (w : World) (hK : ∀ j, K j → j < w.heap.size) (h0 : Gr w b t (countL L.length ++ R 0)) (hI0 : ∀ W, Gr W b t (R 0) → (∀ j, K j → j ≠ b → W.heap[j]? = w.heap[j]?) → I 0 W) :
    Calls Tryz.prog 91 #[pv b t, .int .u64 (most : Int), .func (.func F) fa ca] w fun e w' => ∃ v, e = .returned v ∧ OX KP w' v L ∧ (∀ g, v.ownBlock = some g → w.heap.size ≤ g) ∧ I L.length w' ∧ Rfk K w w' := by
  have r1 := heap_alloc_last w (.cells #[.pointer (some ⟨b, 0, none⟩), .string t] 85)
  have b1 := (Below.refl w.heap.size w).alloc (Nat.le_refl _) (.cells #[.pointer (some ⟨b, 0, none⟩), .string t] 85)
  have sz := b1.size
  have g0 := h0.below b1
  have KB : Hid (∀ j, K j → j < w.heap.size) := hK
  have F0 := hide (Rfk.below (K := K) b1)
  have B0 := hide b1
  unfold pv
  have LE : Hid (L.length ≤ 65535) := h5
  generalize hA : w.alloc (.cells #[.pointer (some ⟨b, 0, none⟩), .string t] 85) = A at *
  have KA : Hid (∀ j, K j → j < A.heap.size) := fun j hj => Nat.lt_of_lt_of_le (hK j hj) sz
  have CC : Hid (∀ W, Rfk K A W → W.cell? ⟨w.heap.size, 0, none⟩ = some (.pointer (some ⟨b, 0, none⟩))) := fun W f => by
    have hW := (f.block _ (lt_heap r1) (fun k => by have := hK _ k; omega)).trans r1
    rw [cell_of_row _ _ _ _ _ _ hW]; rfl
  have c0 := CC.out A (Rfk.below (Below.refl _ _))
  have HC := hide (g0.count L.length most h5 hn hs)
  have HG := hide hG
  have HI := hide hI
  have H0 : Hid (∀ W, Gr W b t (R 0) → Rfr b A W → I 0 W) := fun W g f => hI0 W g (fun j hj hn => (f.block j (Nat.lt_of_lt_of_le (hK j hj) sz) hn).trans (b1.block j (hK j hj)))
  have HF := hide hcf
  have HS := hide hc
  have KBb : Hid (K b) := hb
  clear hn h5 hs hb hG hI hcf hc h0 hI0 r1 b1 g0 hK sz
  go_enter Tryz.func91, Tryz.ntmps91
  go_upto_region 1 with fail
  try rw [hA]
  clear hA
  go_upto_region 3 with (go_at_call 115; with_reducible refine HC.out.mono ?_; rintro e W1 ⟨rfl, g1, f1⟩; have G1 := hide g1; have F1 := hide f1; clear g1 f1)
  have I1 := hide (H0.out _ G1.out F1.out)
  have T1 : Hid (Tl KP K A W1 (.slice none 0 0) (L.take 0)) := by
    show Tl _ _ _ _ _ _
    rw [List.take_zero]
    exact Tl.start (Rfk.of F1.out KBb.out)
  clear G1 F1
  clear HC c0 H0
  go_loopw [7, 12] (fun v i wr => ∃ k : Nat, k ≤ L.length ∧ i = .int .u64 (k : Int) ∧ Hid (Tl KP K A wr v (L.take k)) ∧ Hid (I k wr)) (fun _ i _ => (L.length - intOf i).toNat)
  case atStart => exact ⟨0, Nat.zero_le _, rfl, T1, I1⟩
  case round =>
    clear T1 I1
    obtain ⟨k, hk, rfl, hT, hP⟩ := hrel
    by_cases hlt : k < L.length
    · have h1 : (k : Int) < (L.length : Int) := by omega
      have h2 : (0 : Int) ≤ (k : Int) := by omega
      have e1 : IntKind.u64.wrap ((k : Int) + 1) = k + 1 := wrapu _ (by omega) (by have := LE.out; omega)
      have c1 := CC.out wr hT.out.fr
      have HE := hide (HG.out k wr hP.out).err
      have HK := hide (HS.out k hlt wr hP.out)
      have hcf := HF.out wr
      have NX : Hid (∀ x, L[k]? = some x → L.take (k + 1) = L.take k ++ [x]) := fun x h => by rw [List.take_add_one, h]; rfl
      have LT := hide hlt
      have LK := hide (show (L.take k).length = k by rw [List.length_take]; omega)
      have SZ : Hid (((L.take k).length + 1) * KP.b ≤ 140737488355328 ∧ (L.take k).length + 1 ≤ maxLen) := by
        show _ ∧ _
        rw [LK.out]
        have := LE.out
        refine ⟨?_, by unfold maxLen; omega⟩
        show (k + 1) * 8 ≤ _
        omega
      clear hlt
      go_upto_region 6 with (go_at_call 96; with_reducible refine HE.out.mono ?_; rintro e W2 ⟨rfl, rfl⟩)
      clear c1
      go_upto_region 7 with (first | (with_reducible refine HK.out.mono ?_; rintro e W3 ⟨⟨x, hx, rfl⟩, i3, f3⟩; have T3 := hide (hT.out.call KA.out f3); have I3 := hide i3; have X3 := hide hx; clear i3 f3 hx) | ((with_reducible refine at_list ?_); first | (refine Ek.wpBs1v KP rfl _ rfl x (.int .i64 x) rfl rfl ?_; have b4 := (Below.refl W3.heap.size W3).alloc (Nat.le_refl _) (.cells (KP.enc x).toArray KP.e); have N4 := hide (one_newX (E := KP) W3 x); have T4 := hide (T3.out.call KA.out (Rfk.below b4)); have I4 := hide (HI.out _ _ _ I3.out (fun j hj => b4.block j (Nat.lt_of_lt_of_le (KA.out j hj) T3.out.fr.size))); clear b4 T3 I3; generalize W3.alloc (.cells (KP.enc x).toArray KP.e) = W4 at *; generalize W3.heap.size = gb at *) | (refine Ek.wpApp1 KP rfl _ _ rfl u7 (L.take k) rfl T4.out.ox ⟨gb, 0, none⟩ x rfl N4.out SZ.out.1 SZ.out.2 ?_; intro v5 W5 o5 n5; have Q5 := hide (T4.out.app o5 n5); have I5 := hide (HI.out _ _ _ I4.out (fun j hj => Q5.out.2 j (KA.out j hj))); clear o5 n5)))
      have T6 : Hid (Tl KP K A W5 v5 (L.take (k + 1))) := by show Tl _ _ _ _ _ _; rw [NX.out _ X3.out]; exact Q5.out.1
      clear HE HK hcf NX Q5 T4 I4 X3
      go_wp2
      go_round
      case rel => exact ⟨k + 1, LT.out, by go_num, T6, I5⟩
      case measure => have := LT.out; simp [intOf]; omega
    · have h1 : ¬ (k : Int) < (L.length : Int) := by omega
      have hkn : k = L.length := by omega
      go_wp2
      go_ret
      refine ⟨_, rfl, ?_, fun g hg => Nat.le_trans B0.out.size (hT.out.far g hg), ?_, F0.out.trans hT.out.fr⟩
      · have := hT.out.ox
        rw [hkn, List.take_length] at this
        exact this
      · rw [← hkn]
        exact hP.out
end
section
set_option maxRecDepth 10000
set_option maxHeartbeats 2000000
theorem take_filled (K : Nat → Prop) (I : Nat → World → Prop) (L : List Fd) (F : Nat) (fa ca : Array Value) (b : Nat) (t : ByteArray) (R : Nat → List UInt8) (most : Nat) (hn : L.length ≤ most) (h5 : L.length ≤ 65535) (hs : t.size ≤ maxLen) (hb : K b)
    (hG : ∀ k W, I k W → Gr W b t (R k)) (hI : ∀ k W W', I k W → (∀ j, K j → W'.heap[j]? = W.heap[j]?) → I k W')
    (hcf : ∀ W, (callFunc F (fa ++ ca)).run Tryz.prog W = .ok (.enter F (fa ++ ca)) W)
    (hc : ∀ k (h : k < L.length) W, I k W → Calls Tryz.prog F (fa ++ ca) W fun e w' => (∃ x, L[k]? = some x ∧ e = .returned (.agg x.cells.toArray)) ∧ I (k + 1) w' ∧ Rfk K W w')
    (w : World) (hK : ∀ j, K j → j < w.heap.size) (h0 : Gr w b t (countL L.length ++ R 0)) (hI0 : ∀ W, Gr W b t (R 0) → (∀ j, K j → j ≠ b → W.heap[j]? = w.heap[j]?) → I 0 W) :
    Calls Tryz.prog 120 #[pv b t, .int .u64 (most : Int), .func (.func F) fa ca] w fun e w' => ∃ v, e = .returned v ∧ OX KF w' v L ∧ (∀ g, v.ownBlock = some g → w.heap.size ≤ g) ∧ I L.length w' ∧ Rfk K w w' := by
  have r1 := heap_alloc_last w (.cells #[.pointer (some ⟨b, 0, none⟩), .string t] 85)
  have b1 := (Below.refl w.heap.size w).alloc (Nat.le_refl _) (.cells #[.pointer (some ⟨b, 0, none⟩), .string t] 85)
  have sz := b1.size
  have g0 := h0.below b1
  have KB : Hid (∀ j, K j → j < w.heap.size) := hK
  have F0 := hide (Rfk.below (K := K) b1)
  have B0 := hide b1
  unfold pv
  have LE : Hid (L.length ≤ 65535) := h5
  generalize hA : w.alloc (.cells #[.pointer (some ⟨b, 0, none⟩), .string t] 85) = A at *
  have KA : Hid (∀ j, K j → j < A.heap.size) := fun j hj => Nat.lt_of_lt_of_le (hK j hj) sz
  have CC : Hid (∀ W, Rfk K A W → W.cell? ⟨w.heap.size, 0, none⟩ = some (.pointer (some ⟨b, 0, none⟩))) := fun W f => by
    have hW := (f.block _ (lt_heap r1) (fun k => by have := hK _ k; omega)).trans r1
    rw [cell_of_row _ _ _ _ _ _ hW]; rfl
  have c0 := CC.out A (Rfk.below (Below.refl _ _))
  have HC := hide (g0.count L.length most h5 hn hs)
  have HG := hide hG
  have HI := hide hI
  have H0 : Hid (∀ W, Gr W b t (R 0) → Rfr b A W → I 0 W) := fun W g f => hI0 W g (fun j hj hn => (f.block j (Nat.lt_of_lt_of_le (hK j hj) sz) hn).trans (b1.block j (hK j hj)))
  have HF := hide hcf
  have HS := hide hc
  have KBb : Hid (K b) := hb
  clear hn h5 hs hb hG hI hcf hc h0 hI0 r1 b1 g0 hK sz
  go_enter Tryz.func120, Tryz.ntmps120
  go_upto_region 1 with fail
  try rw [hA]
  clear hA
  go_upto_region 3 with (go_at_call 115; with_reducible refine HC.out.mono ?_; rintro e W1 ⟨rfl, g1, f1⟩; have G1 := hide g1; have F1 := hide f1; clear g1 f1)
  have I1 := hide (H0.out _ G1.out F1.out)
  have T1 : Hid (Tl KF K A W1 (.slice none 0 0) (L.take 0)) := by
    show Tl _ _ _ _ _ _
    rw [List.take_zero]
    exact Tl.start (Rfk.of F1.out KBb.out)
  clear G1 F1
  clear HC c0 H0
  go_loopw [7, 12] (fun v i wr => ∃ k : Nat, k ≤ L.length ∧ i = .int .u64 (k : Int) ∧ Hid (Tl KF K A wr v (L.take k)) ∧ Hid (I k wr)) (fun _ i _ => (L.length - intOf i).toNat)
  case atStart => exact ⟨0, Nat.zero_le _, rfl, T1, I1⟩
  case round =>
    clear T1 I1
    obtain ⟨k, hk, rfl, hT, hP⟩ := hrel
    by_cases hlt : k < L.length
    · have h1 : (k : Int) < (L.length : Int) := by omega
      have h2 : (0 : Int) ≤ (k : Int) := by omega
      have e1 : IntKind.u64.wrap ((k : Int) + 1) = k + 1 := wrapu _ (by omega) (by have := LE.out; omega)
      have c1 := CC.out wr hT.out.fr
      have HE := hide (HG.out k wr hP.out).err
      have HK := hide (HS.out k hlt wr hP.out)
      have hcf := HF.out wr
      have NX : Hid (∀ x, L[k]? = some x → L.take (k + 1) = L.take k ++ [x]) := fun x h => by rw [List.take_add_one, h]; rfl
      have LT := hide hlt
      have LK := hide (show (L.take k).length = k by rw [List.length_take]; omega)
      have SZ : Hid (((L.take k).length + 1) * KF.b ≤ 140737488355328 ∧ (L.take k).length + 1 ≤ maxLen) := by
        show _ ∧ _
        rw [LK.out]
        have := LE.out
        refine ⟨?_, by unfold maxLen; omega⟩
        show (k + 1) * 24 ≤ _
        omega
      clear hlt
      go_upto_region 6 with (go_at_call 96; with_reducible refine HE.out.mono ?_; rintro e W2 ⟨rfl, rfl⟩)
      clear c1
      go_upto_region 7 with (first | (with_reducible refine HK.out.mono ?_; rintro e W3 ⟨⟨x, hx, rfl⟩, i3, f3⟩; have T3 := hide (hT.out.call KA.out f3); have I3 := hide i3; have X3 := hide hx; clear i3 f3 hx) | ((with_reducible refine at_list ?_); first | (refine Ek.wpBs1v KF rfl _ rfl x (.agg x.cells.toArray) rfl rfl ?_; have b4 := (Below.refl W3.heap.size W3).alloc (Nat.le_refl _) (.cells (KF.enc x).toArray KF.e); have N4 := hide (one_newX (E := KF) W3 x); have T4 := hide (T3.out.call KA.out (Rfk.below b4)); have I4 := hide (HI.out _ _ _ I3.out (fun j hj => b4.block j (Nat.lt_of_lt_of_le (KA.out j hj) T3.out.fr.size))); clear b4 T3 I3; generalize W3.alloc (.cells (KF.enc x).toArray KF.e) = W4 at *; generalize W3.heap.size = gb at *) | (refine Ek.wpApp1 KF rfl _ _ rfl u7 (L.take k) rfl T4.out.ox ⟨gb, 0, none⟩ x rfl N4.out SZ.out.1 SZ.out.2 ?_; intro v5 W5 o5 n5; have Q5 := hide (T4.out.app o5 n5); have I5 := hide (HI.out _ _ _ I4.out (fun j hj => Q5.out.2 j (KA.out j hj))); clear o5 n5)))
      have T6 : Hid (Tl KF K A W5 v5 (L.take (k + 1))) := by show Tl _ _ _ _ _ _; rw [NX.out _ X3.out]; exact Q5.out.1
      clear HE HK hcf NX Q5 T4 I4 X3
      go_wp2
      go_round
      case rel => exact ⟨k + 1, LT.out, by go_num, T6, I5⟩
      case measure => have := LT.out; simp [intOf]; omega
    · have h1 : ¬ (k : Int) < (L.length : Int) := by omega
      have hkn : k = L.length := by omega
      go_wp2
      go_ret
      refine ⟨_, rfl, ?_, fun g hg => Nat.le_trans B0.out.size (hT.out.far g hg), ?_, F0.out.trans hT.out.fr⟩
      · have := hT.out.ox
        rw [hkn, List.take_length] at this
        exact this
      · rw [← hkn]
        exact hP.out
end
end Go.Proofs.YtkoidjaaojmcnaaGreat
namespace Go.Proofs.YtkoidjaaojmcnaaGreat
open Go.RowKit
open Go.Deep
set_option linter.unusedVariables false
set_option linter.unusedSimpArgs false
theorem drop_at {α : Type} {L : List α} {k : Nat} (h : k < L.length) : ∃ x, L[k]? = some x ∧ L.drop k = x :: L.drop (k + 1) := ⟨L[k], List.getElem?_eq_getElem h, List.drop_eq_getElem_cons h⟩
section
set_option maxRecDepth 10000
set_option maxHeartbeats 1000000
theorem list_net (L : List Nt) (b : Nat) (t : ByteArray) (Y : List UInt8) (hn : L.length ≤ 100) (hs : t.size ≤ maxLen) (w : World) (h0 : Gr w b t (countL L.length ++ (L.flatMap Nt.full ++ Y))) :
    Calls Tryz.prog 78 #[pv b t, .int .u64 100, .func (.func 79) #[pv b t] #[]] w fun e w' => ∃ v, e = .returned v ∧ OX KN w' v L ∧ (∀ g, v.ownBlock = some g → w.heap.size ≤ g) ∧ Gr w' b t Y ∧ Rfr b w w' := by
  refine (take_net (fun j => j = b) (fun k W => Gr W b t ((L.drop k).flatMap Nt.full ++ Y)) L 79 #[pv b t] #[] b t (fun k => (L.drop k).flatMap Nt.full ++ Y) 100 hn (by omega) hs rfl (fun k W g => g) (fun k W W' g hb => g.at (hb b rfl)) (fun W => by kernel_rfl) (fun k hk W g => ?_) w (fun j hj => by subst hj; exact h0.lt) (by rw [List.drop_zero]; exact h0) (fun W g _ => g)).mono ?_
  · obtain ⟨x, hx, e⟩ := drop_at hk
    simp only [e, List.flatMap_cons, List.append_assoc] at g
    refine (show Calls Tryz.prog 79 #[pv b t] W _ from address_on x (by simpa [Nt.full, List.append_assoc] using g) hs).mono ?_
    rintro r W' ⟨rfl, g1, f1⟩
    exact ⟨⟨x, hx, rfl⟩, g1, Rfk.of f1 rfl⟩
  · rintro e W' ⟨v, rfl, o, far, g, f⟩
    refine ⟨v, rfl, o, far, ?_, f.rfr (fun k _ h => h)⟩
    simpa using g
theorem list_item (L : List Im) (b : Nat) (t : ByteArray) (Y : List UInt8) (hn : L.length ≤ 500) (hs : t.size ≤ maxLen) (w : World) (h0 : Gr w b t (countL L.length ++ (L.flatMap Im.bytes ++ Y))) :
    Calls Tryz.prog 80 #[pv b t, .int .u64 500, .func (.func 81) #[pv b t] #[]] w fun e w' => ∃ v, e = .returned v ∧ OX KI w' v L ∧ (∀ g, v.ownBlock = some g → w.heap.size ≤ g) ∧ Gr w' b t Y ∧ Rfr b w w' := by
  refine (take_item (fun j => j = b) (fun k W => Gr W b t ((L.drop k).flatMap Im.bytes ++ Y)) L 81 #[pv b t] #[] b t (fun k => (L.drop k).flatMap Im.bytes ++ Y) 500 hn (by omega) hs rfl (fun k W g => g) (fun k W W' g hb => g.at (hb b rfl)) (fun W => by kernel_rfl) (fun k hk W g => ?_) w (fun j hj => by subst hj; exact h0.lt) (by rw [List.drop_zero]; exact h0) (fun W g _ => g)).mono ?_
  · obtain ⟨x, hx, e⟩ := drop_at hk
    simp only [e, List.flatMap_cons, List.append_assoc] at g
    refine (show Calls Tryz.prog 81 #[pv b t] W _ from item_on x g hs).mono ?_
    rintro r W' ⟨rfl, g1, f1⟩
    exact ⟨⟨x, hx, rfl⟩, g1, Rfk.of f1 rfl⟩
  · rintro e W' ⟨v, rfl, o, far, g, f⟩
    refine ⟨v, rfl, o, far, ?_, f.rfr (fun k _ h => h)⟩
    simpa using g
theorem list_hash (L : List Id32) (b : Nat) (t : ByteArray) (Y : List UInt8) (hn : L.length ≤ 64) (hs : t.size ≤ maxLen) (w : World) (h0 : Gr w b t (countL L.length ++ (L.flatMap (fun x : Id32 => x.1) ++ Y))) :
    Calls Tryz.prog 83 #[pv b t, .int .u64 64, .func (.func 84) #[.pointer (some ⟨b, 0, none⟩)] #[]] w fun e w' => ∃ v, e = .returned v ∧ OX KH w' v L ∧ (∀ g, v.ownBlock = some g → w.heap.size ≤ g) ∧ Gr w' b t Y ∧ Rfr b w w' := by
  refine (take_hash (fun j => j = b) (fun k W => Gr W b t ((L.drop k).flatMap (fun x : Id32 => x.1) ++ Y)) L 84 #[.pointer (some ⟨b, 0, none⟩)] #[] b t (fun k => (L.drop k).flatMap (fun x : Id32 => x.1) ++ Y) 64 hn (by omega) hs rfl (fun k W g => g) (fun k W W' g hb => g.at (hb b rfl)) (fun W => by kernel_rfl) (fun k hk W g => ?_) w (fun j hj => by subst hj; exact h0.lt) (by rw [List.drop_zero]; exact h0) (fun W g _ => g)).mono ?_
  · obtain ⟨x, hx, e⟩ := drop_at hk
    simp only [e, List.flatMap_cons, List.append_assoc] at g
    refine (show Calls Tryz.prog 84 #[.pointer (some ⟨b, 0, none⟩)] W _ from Gr.hash x.1 x.2 g hs).mono ?_
    rintro r W' ⟨rfl, g1, f1⟩
    exact ⟨⟨x, hx, rfl⟩, g1, Rfk.of f1 rfl⟩
  · rintro e W' ⟨v, rfl, o, far, g, f⟩
    refine ⟨v, rfl, o, far, ?_, f.rfr (fun k _ h => h)⟩
    simpa using g
theorem list_head (L : List ByteArray) (b : Nat) (t : ByteArray) (Y : List UInt8) (hn : L.length ≤ 100) (hx8 : ∀ x ∈ L, x.size = 80) (hs : t.size ≤ maxLen) (w : World) (h0 : Gr w b t (countL L.length ++ (L.flatMap (fun x : ByteArray => x.data.toList ++ [0]) ++ Y))) :
    Calls Tryz.prog 85 #[pv b t, .int .u64 100, .func (.func 86) #[pv b t] #[]] w fun e w' => ∃ v, e = .returned v ∧ OX KS w' v L ∧ (∀ g, v.ownBlock = some g → w.heap.size ≤ g) ∧ Gr w' b t Y ∧ Rfr b w w' := by
  refine (take_string (fun j => j = b) (fun k W => Gr W b t ((L.drop k).flatMap (fun x : ByteArray => x.data.toList ++ [0]) ++ Y)) L 86 #[pv b t] #[] b t (fun k => (L.drop k).flatMap (fun x : ByteArray => x.data.toList ++ [0]) ++ Y) 100 hn (by omega) hs rfl (fun k W g => g) (fun k W W' g hb => g.at (hb b rfl)) (fun W => by kernel_rfl) (fun k hk W g => ?_) w (fun j hj => by subst hj; exact h0.lt) (by rw [List.drop_zero]; exact h0) (fun W g _ => g)).mono ?_
  · obtain ⟨x, hx, e⟩ := drop_at hk
    simp only [e, List.flatMap_cons, List.append_assoc] at g
    refine (show Calls Tryz.prog 86 #[pv b t] W _ from head_on x (hx8 x (List.mem_of_getElem? hx)) (by simpa [List.append_assoc] using g) hs).mono ?_
    rintro r W' ⟨rfl, g1, f1⟩
    exact ⟨⟨x, hx, rfl⟩, g1, Rfk.of f1 rfl⟩
  · rintro e W' ⟨v, rfl, o, far, g, f⟩
    refine ⟨v, rfl, o, far, ?_, f.rfr (fun k _ h => h)⟩
    simpa using g
theorem list_raw (L : List ByteArray) (b : Nat) (t : ByteArray) (Y : List UInt8) (hn : L.length ≤ 500) (hx8 : ∀ x ∈ L, x.size ≤ 4096) (hs : t.size ≤ maxLen) (w : World) (h0 : Gr w b t (countL L.length ++ (L.flatMap rawL ++ Y))) :
    Calls Tryz.prog 85 #[pv b t, .int .u64 500, .func (.func 94) #[pv b t] #[]] w fun e w' => ∃ v, e = .returned v ∧ OX KS w' v L ∧ (∀ g, v.ownBlock = some g → w.heap.size ≤ g) ∧ Gr w' b t Y ∧ Rfr b w w' := by
  refine (take_string (fun j => j = b) (fun k W => Gr W b t ((L.drop k).flatMap rawL ++ Y)) L 94 #[pv b t] #[] b t (fun k => (L.drop k).flatMap rawL ++ Y) 500 hn (by omega) hs rfl (fun k W g => g) (fun k W W' g hb => g.at (hb b rfl)) (fun W => by kernel_rfl) (fun k hk W g => ?_) w (fun j hj => by subst hj; exact h0.lt) (by rw [List.drop_zero]; exact h0) (fun W g _ => g)).mono ?_
  · obtain ⟨x, hx, e⟩ := drop_at hk
    simp only [e, List.flatMap_cons, List.append_assoc] at g
    refine (show Calls Tryz.prog 94 #[pv b t] W _ from raw_on x (hx8 x (List.mem_of_getElem? hx)) g hs).mono ?_
    rintro r W' ⟨rfl, g1, f1⟩
    exact ⟨⟨x, hx, rfl⟩, g1, Rfk.of f1 rfl⟩
  · rintro e W' ⟨v, rfl, o, far, g, f⟩
    refine ⟨v, rfl, o, far, ?_, f.rfr (fun k _ h => h)⟩
    simpa using g
theorem list_short (L : List UInt64) (b : Nat) (t : ByteArray) (Y : List UInt8) (hn : L.length ≤ 500) (hx8 : ∀ x ∈ L, x.toNat ≤ 281474976710655) (hs : t.size ≤ maxLen) (w : World) (h0 : Gr w b t (countL L.length ++ (L.flatMap (fun x : UInt64 => lowL x.toNat 6) ++ Y))) :
    Calls Tryz.prog 118 #[pv b t, .int .u64 500, .func (.func 119) #[pv b t] #[]] w fun e w' => ∃ v, e = .returned v ∧ OX KU w' v L ∧ (∀ g, v.ownBlock = some g → w.heap.size ≤ g) ∧ Gr w' b t Y ∧ Rfr b w w' := by
  refine (take_uint (fun j => j = b) (fun k W => Gr W b t ((L.drop k).flatMap (fun x : UInt64 => lowL x.toNat 6) ++ Y)) L 119 #[pv b t] #[] b t (fun k => (L.drop k).flatMap (fun x : UInt64 => lowL x.toNat 6) ++ Y) 500 hn (by omega) hs rfl (fun k W g => g) (fun k W W' g hb => g.at (hb b rfl)) (fun W => by kernel_rfl) (fun k hk W g => ?_) w (fun j hj => by subst hj; exact h0.lt) (by rw [List.drop_zero]; exact h0) (fun W g _ => g)).mono ?_
  · obtain ⟨x, hx, e⟩ := drop_at hk
    simp only [e, List.flatMap_cons, List.append_assoc] at g
    refine (show Calls Tryz.prog 119 #[pv b t] W _ from short_on x.toNat (by have := hx8 x (List.mem_of_getElem? hx); omega) g hs).mono ?_
    rintro r W' ⟨rfl, g1, f1⟩
    exact ⟨⟨x, hx, rfl⟩, g1, Rfk.of f1 rfl⟩
  · rintro e W' ⟨v, rfl, o, far, g, f⟩
    refine ⟨v, rfl, o, far, ?_, f.rfr (fun k _ h => h)⟩
    simpa using g
end
end Go.Proofs.YtkoidjaaojmcnaaGreat
