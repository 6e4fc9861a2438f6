/- The law TargetBits: its walk. -/
import Derived.Test.YtmfpnlnhebjelaaTu
import Derived.Test.YtmfpnlnhebjelaaTs
import Derived.Test.YtmfpnlnhebjelaaTt
import Derived.Test.YtmfpnlnhebjelaaTm
import Derived.Test.YtmfpnlnhebjelaaZt
namespace Go.Proofs.Ytmfpnlnhebjelaa
open Go.RowKit
open Go.Deep
section
set_option maxRecDepth 10000
set_option maxHeartbeats 16000000
theorem targetBits_walk (b : Nat) (hb : b < 4294967296) (m : Nat) (hm : m < M) (w : World) : Calls Try.prog 4 #[.int .u32 (b : Int), .agg (wn m)] w fun e w' => e = .returned (.bool true) ∧ Below w.heap.size w w' := by
  have HAw := hide fun W => awake_any5 W
  have HE := hide fun W => expand_any b hb W
  have HEN := hide fun W => expandN_any b hb W
  have HFW := hide fun W => fromWords_any m hm W
  have HC := hide fun W => compact_any m hm W
  have hT : xt b < M := Nat.lt_of_le_of_lt (xt_le b) Lm_M
  have HWT := hide fun W => words_any (xt b) W
  have HF := hide fun W => form_any b hb W
  have hsz : ∀ x, x < M → szB x ≤ 40 := fun x hx => Nat.le_trans (szB_le x hx) (by decide)
  have HCT := hide fun W => compactN_any (xt b) (Nat.lt_trans hT M_MB) (hsz _ hT) W
  have HCm := hide fun W => compactN_any m (Nat.lt_trans hm M_MB) (hsz _ hm) W
  have HLi := hide fun W => limit_any W
  have HLN := hide fun W => limitN_any W
  have HWL := hide fun W => words_any Lm W
  have HZ := hide fun W => zeroN_any m (Nat.lt_trans hm M_MB) W
  have HLs := hide fun W => less_any Lm m Lm_MB (Nat.lt_trans hm M_MB) W
  have hd : decide (cpt (xt b) = b) = (((cpt (xt b) : Nat) : Int) == (b : Int)) := by
    rw [Bool.eq_iff_iff]
    simp
    omega
  rw [hd] at HF
  have eT := hide fun W => eqW (xt b) (xt b) hT hT W
  rw [show decide (xt b = xt b) = true by simp] at eT
  have eL := hide fun W => eqW Lm Lm Lm_M Lm_M W
  rw [show decide (Lm = Lm) = true by simp] at eL
  have eT0 := hide fun W => eqW (xt b) 0 hT M_pos W
  have hx0 : okB b = false → xt b = 0 := fun h => by unfold xt; rw [h]; rfl
  have NEAR := hide (near m)
  have HM := hide hm
  have J0 := hide (Rc.start1 w 24 (wn m))
  obtain ⟨fb, hfb⟩ : ∃ fb, (((cpt (xt b) : Nat) : Int) == (b : Int)) = fb := ⟨_, rfl⟩
  rw [hfb] at HF
  generalize cpt (xt b) = cT at *
  generalize hxt : xt b = T at *
  generalize hcm : cpt m = cm at *
  generalize hLm : Lm = LM at *
  have HLm := hide hLm
  have hzm : decide (m = 0) = decide (m = 0) := rfl
  obtain ⟨zm, hzm⟩ : ∃ zm, decide (m = 0) = zm := ⟨_, rfl⟩
  rw [hzm] at HZ
  obtain ⟨lm, hlm⟩ : ∃ lm, decide (LM < m) = lm := ⟨_, rfl⟩
  rw [hlm] at HLs
  have HZM := hide (And.intro hzm hlm)
  clear hd hT hsz hm hzm hlm hLm hxt hcm
  go_enter Try.func4, Try.ntmps4
  go_upto_region 1 with (refine wpList_boxA rfl _ rfl (wn m) rfl ?_)
  generalize w.alloc (.cells (wn m) 24) = W0 at *
  go_upto_region 2 with (first | (go_at_call 18; refine (HE.out _).mono ?_; rintro e w1 ⟨rfl, be⟩; have J1 := hide ((J0.out.next be).new 24 (wn T)); clear be) | refine wpList_allocA AW rfl rfl ?_ | refine wpList_store_newA AW rfl _ _ rfl _ rfl (wn T) (wn_size _) (wn_one _) rfl rfl ?_)
  try simp only [Act.put, List.setIfInBounds_toArray, List.set_cons_succ, List.set_cons_zero]
  generalize w1.alloc (.cells (wn T) 24) = W1 at *
  generalize w1.heap.size = g5 at *
  go_upto_region 3 with (first | (go_at_call 19; refine (HEN.out _).mono ?_; rintro e w2 ⟨rfl, be⟩; have J2 := hide ((J1.out.next be).new 46 (bn T)); clear be) | refine wpList_allocA AN rfl rfl ?_ | refine wpList_store_newA AN rfl _ _ rfl _ rfl (bn T) (bn_size _) (bn_one _) rfl rfl ?_)
  try simp only [Act.put, List.setIfInBounds_toArray, List.set_cons_succ, List.set_cons_zero]
  generalize w2.alloc (.cells (bn T) 46) = W2 at *
  generalize w2.heap.size = g7 at *
  have r2 := hide (J2.out.at (g := w.heap.size) (t := 24) (c := wn m) (by simp))
  go_upto_region 4 with (first | refine wpList_loadA AW rfl _ rfl w.heap.size rfl (wn m) (wn_size _) 24 r2.out ?_ | (go_at_call 20; refine (HFW.out _).mono ?_; rintro e w3 ⟨rfl, be⟩; have J3 := hide ((J2.out.next be).new 46 (bn m)); clear be) | refine wpList_allocA AN rfl rfl ?_ | refine wpList_store_newA AN rfl _ _ rfl _ rfl (bn m) (bn_size _) (bn_one _) rfl rfl ?_)
  try simp only [Act.put, List.setIfInBounds_toArray, List.set_cons_succ, List.set_cons_zero]
  generalize w3.alloc (.cells (bn m) 46) = W3 at *
  generalize w3.heap.size = g9 at *
  have r3 := hide (J3.out.at (g := w.heap.size) (t := 24) (c := wn m) (by simp))
  go_upto_region 5 with (first | refine wpList_loadA AW rfl _ rfl w.heap.size rfl (wn m) (wn_size _) 24 r3.out ?_ | (go_at_call 21; refine (HC.out _).mono ?_; rintro e w4 ⟨rfl, be⟩; have J4 := hide (J3.out.next be); clear be))
  clear J0 J1 J2 J3 r2 r3 HE HEN HFW HC
  obtain ⟨I, hne, F, i0, h0, hJ, hcl⟩ := J4.out.cls
  generalize okB b = ok at *
  go_cut [78] from 28 to 77 (fun s78 wx => s78 = .bool false ∧ Hid (Rc w wx [(g9, 46, bn m), (g7, 46, bn T), (g5, 24, wn T), (w.heap.size, 24, wn m)]))
  case first =>
    cases ok
    case' false =>
      rw [Bool.false_and] at HF
      rw [show decide (T = 0) = true by simp [hx0 rfl]] at eT0
    case' true =>
      rw [Bool.true_and] at HF
    all_goals
      clear hx0
      simp only [Bool.false_eq_true, if_false, if_true]
      refine wp_region_class_lit (by kernel_rfl) (by kernel_rfl) i0 h0 ?_
      repeat (first | ((go_big_quiet_want; first | refine quiet_loadA AW _ (by rfl) g5 (by rfl) (wn T) (wn_size _) 24 (Rc.of hJ (by simp)) ?_ | refine quiet_loadA AN _ (by rfl) g7 (by rfl) (bn T) (bn_size _) 46 (Rc.of hJ (by simp)) ?_ | refine quiet_loadA AN _ (by rfl) g9 (by rfl) (bn m) (bn_size _) 46 (Rc.of hJ (by simp)) ?_ | refine quiet_build0 AW (by rfl) ?_ | refine quiet_neqW 24 _ _ _ (by rfl) (wn T) (wn T) (by rfl) (by rfl) eqgW true eT.out ?_ | refine quiet_neqW 24 _ _ _ (by rfl) (wn LM) (wn LM) (by rfl) (by rfl) eqgW true eL.out ?_ | refine quiet_neqW 24 _ _ _ (by rfl) (wn T) (wn 0) (by rfl) (by rfl) eqgW true eT0.out ?_); go_big_quiet_on; simp only [Act.put, List.setIfInBounds_toArray, List.set_cons_succ, List.set_cons_zero, Bool.not_true]) | go_big_quiet_step (first | (go_at_call 22; exact class_of hcl.out (HAw.out _)) | (go_at_call_of 23 (Value.agg (bn LM)); exact class_of hcl.out (HWL.out _)) | (go_at_call 23; exact class_of hcl.out (HWT.out _)) | (go_at_call 24; exact class_of hcl.out (HF.out _)) | (go_at_call_of 25 (Value.agg (bn m)); exact class_of hcl.out (HCm.out _)) | (go_at_call 25; exact class_of hcl.out (HCT.out _)) | (go_at_call 26; exact class_of hcl.out (HLi.out _)) | (go_at_call 27; exact class_of hcl.out (HLN.out _))))
      refine wpQuiet_nil ?_
      rintro _ ⟨iq, rfl⟩
      go_wp2_with fail
      go_meet
      exact ⟨rfl, hide (hJ.out iq)⟩
  obtain ⟨rfl, J5⟩ := hcut
  clear J4 hJ hcl h0 HF HWT HCT HCm HLi HWL eT eL eT0 hx0 HAw hfb
  generalize wc = W5 at *
  generalize (if ok = true then (0 : Int) else 50) = ev at *
  go_upto_region 7 with fail
  go_cut [85] from 79 to 84 (fun s85 wx => s85 = .bool (zm || lm) ∧ Hid (Rc w wx [(g9, 46, bn m), (g7, 46, bn T), (g5, 24, wn T), (w.heap.size, 24, wn m)]))
  case first =>
    obtain ⟨I2, hne2, F2, j0, k0, hJ, hcl⟩ := J5.out.cls
    cases zm
    all_goals
      refine wp_region_class_lit (by kernel_rfl) (by kernel_rfl) j0 k0 ?_
      repeat (first | ((go_big_quiet_want; first | refine quiet_loadA AN _ (by rfl) g9 (by rfl) (bn m) (bn_size _) 46 (Rc.of hJ (by simp)) ?_); go_big_quiet_on; simp only [Act.put, List.setIfInBounds_toArray, List.set_cons_succ, List.set_cons_zero]) | go_big_quiet_step (first | (go_at_call 28; exact class_of hcl.out (HZ.out _)) | (go_at_call 27; exact class_of hcl.out (HLN.out _)) | (go_at_call 29; exact class_of hcl.out (HLs.out _))))
      refine wpQuiet_nil ?_
      rintro _ ⟨iq, rfl⟩
      go_wp2_with fail
      go_meet
      exact ⟨by simp, hide (hJ.out iq)⟩
  obtain ⟨rfl, J6⟩ := hcut
  clear J5 HZ HLN HLs
  generalize wc = W6 at *
  obtain ⟨sm, hsm⟩ : ∃ sm, (zm || lm) = sm := ⟨_, rfl⟩
  rw [hsm]
  have HSM := hide hsm
  clear hsm
  cases sm
  · have hz := HSM.out
    rw [← HZM.out.1, ← HZM.out.2, Bool.or_eq_false_iff, decide_eq_false_iff_not, decide_eq_false_iff_not] at hz
    obtain ⟨n1, n2, n3, n4⟩ := NEAR.out (Nat.pos_of_ne_zero hz.1) (Nat.le_of_not_lt hz.2)
    have hBM : tgt cm < M := Nat.lt_of_le_of_lt n3 HM.out
    have HE2 := hide fun W => expand_yes cm n1 n2 W
    have HF2 := hide fun W => fromWords_any (tgt cm) hBM W
    have HMi := hide fun W => minus_any (tgt cm) (m - tgt cm) W
    rw [Nat.add_sub_cancel' n3] at HMi
    have HTi : Hid (∀ W, Calls Try.prog 30 #[.agg (bn (m - tgt cm)), .int .i64 32768] W fun e w' => e = .returned (.agg (bn ((m - tgt cm) * 32768))) ∧ Below W.heap.size W w') := fun W => times_any (m - tgt cm) 32768 (by decide) W
    have hMB := Nat.lt_trans HM.out M_MB
    have HL1 := hide fun W => less_any m (tgt cm) hMB (Nat.lt_trans hBM M_MB) W
    rw [decide_eq_false (Nat.not_lt.2 n3)] at HL1
    have HL2 := hide fun W => less_any ((m - tgt cm) * 32768) m (Nat.lt_trans n4 hMB) hMB W
    rw [decide_eq_true n4] at HL2
    generalize (m - tgt cm) * 32768 = D2 at *
    generalize m - tgt cm = D1 at *
    generalize tgt cm = B at *
    clear hz n1 n2 n3 n4 hBM hMB
    go_upto_region 10 with (first | (go_at_call 18; refine (HE2.out _).mono ?_; rintro e w7 ⟨rfl, be⟩; have J7 := hide ((J6.out.next be).new 24 (wn B)); clear be) | refine wpList_allocA AW rfl rfl ?_ | refine wpList_store_newA AW rfl _ _ rfl _ rfl (wn B) (wn_size _) (wn_one _) rfl rfl ?_)
    try simp only [Act.put, List.setIfInBounds_toArray, List.set_cons_succ, List.set_cons_zero]
    generalize w7.alloc (.cells (wn B) 24) = W7 at *
    generalize w7.heap.size = g11 at *
    have r7 := hide (J7.out.at (g := g11) (t := 24) (c := wn B) (by simp))
    go_upto_region 11 with (first | refine wpList_loadA AW rfl _ rfl g11 rfl (wn B) (wn_size _) 24 r7.out ?_ | (go_at_call 20; refine (HF2.out _).mono ?_; rintro e w8 ⟨rfl, be⟩; have J8 := hide ((J7.out.next be).new 46 (bn B)); clear be) | refine wpList_allocA AN rfl rfl ?_ | refine wpList_store_newA AN rfl _ _ rfl _ rfl (bn B) (bn_size _) (bn_one _) rfl rfl ?_)
    try simp only [Act.put, List.setIfInBounds_toArray, List.set_cons_succ, List.set_cons_zero]
    generalize w8.alloc (.cells (bn B) 46) = W8 at *
    generalize w8.heap.size = g13 at *
    clear J6 J7 r7 HE2 HF2
    go_upto_region 13 with fail
    obtain ⟨I2, hne2, F2, j0, k0, hJ, hcl⟩ := J8.out.cls
    refine wp_region_class_lit (by kernel_rfl) (by kernel_rfl) j0 k0 ?_
    repeat (first | ((go_big_quiet_want; first | refine quiet_loadA AN _ (by rfl) g9 (by rfl) (bn m) (bn_size _) 46 (Rc.of hJ (by simp)) ?_ | refine quiet_loadA AN _ (by rfl) g13 (by rfl) (bn B) (bn_size _) 46 (Rc.of hJ (by simp)) ?_); go_big_quiet_on; simp only [Act.put, List.setIfInBounds_toArray, List.set_cons_succ, List.set_cons_zero]) | go_big_quiet_step (first | (go_at_call_of 29 (Value.agg (bn D2)); exact class_of hcl.out (HL2.out _)) | (go_at_call 29; exact class_of hcl.out (HL1.out _)) | (go_at_call 31; exact class_of hcl.out (HMi.out _)) | (go_at_call 30; exact class_of hcl.out (HTi.out _))))
    refine wpQuiet_nil ?_
    rintro _ ⟨iq, rfl⟩
    go_wp2
    go_ret
    exact ⟨rfl, (hJ.out iq).bel⟩
  · go_wp2
    go_ret
    exact ⟨rfl, J6.out.bel⟩
end
end Go.Proofs.Ytmfpnlnhebjelaa
