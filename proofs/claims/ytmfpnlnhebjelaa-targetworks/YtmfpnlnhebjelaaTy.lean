/- The law TargetWorks: its walk. -/
import Derived.Test.YtmfpnlnhebjelaaTx
import Derived.Test.YtmfpnlnhebjelaaTs
namespace Go.Proofs.Ytmfpnlnhebjelaa
open Go.RowKit
open Go.Deep
section
set_option maxRecDepth 10000
set_option maxHeartbeats 40000000
theorem targetWorks_walk (a : Nat) (ha : a < 4294967296) (b : Nat) (hb : b < 4294967296) (w : World) : Calls Try.prog 5 #[.int .u32 (a : Int), .int .u32 (b : Int)] w fun e w' => e = .returned (.bool true) ∧ Below w.heap.size w w' := by
  have HAw := hide fun W => awake_any5 W
  have H1 := hide fun W => work_any a ha W
  have H2 := hide fun W => workN_any a ha W
  have H3 := hide fun W => work_any b hb W
  have H4 := hide fun W => expandN_any a ha W
  have H5 := hide fun W => expandN_any b hb W
  have H6 := hide fun W => tries_any a ha W
  have H7 := hide fun W => harder_any a b ha hb W
  have hV := wk_lt a
  have hV2 := wk_lt b
  have hT : xt a < MB := Nat.lt_of_le_of_lt (xt_le a) Lm_MB
  have hU : xt b < MB := Nat.lt_of_le_of_lt (xt_le b) Lm_MB
  have H8 := hide fun W => words_any (wk a) W
  have H9 := hide fun W => less_any (xt a) (xt b) hT hU W
  have H10 := hide fun W => fromWords_any (wk b) hV2 W
  have H11 := hide fun W => less_any (wk a) (wk b) (Nat.lt_trans hV M_MB) (Nat.lt_trans hV2 M_MB) W
  have eV := hide fun W => eqW (wk a) (wk a) hV hV W
  rw [show decide (wk a = wk a) = true by simp] at eV
  have HW0 : Hid (okB a = false → wk a = 0) := fun h => by unfold wk; rw [h]; rfl
  have HWK := hide (harder_wk a b)
  have HBIG : Hid ((decide (wk a < 18446744073709551616) = true ∧ trs a = wd (wk a) 0 ∧ wd (wk a) 1 = 0 ∧ wd (wk a) 2 = 0 ∧ wd (wk a) 3 = 0) ∨ (decide (wk a < 18446744073709551616) = false ∧ trs a = 18446744073709551615 ∧ ¬ (wd (wk a) 1 = 0 ∧ wd (wk a) 2 = 0 ∧ wd (wk a) 3 = 0))) := by
    by_cases h : wk a < 18446744073709551616
    · exact .inl ⟨by simp [h], by unfold trs; rw [if_pos h, (wd_small _ h).1], (wd_small _ h).2⟩
    · refine .inr ⟨by simp [h], by unfold trs; rw [if_neg h], fun h2 => h ?_⟩
      have h3 := wd_lt (wk a) 0
      have h4 := wd_small (wd (wk a) 0) h3
      have : wk a = wd (wk a) 0 := wd_ext hV (Nat.lt_trans h3 (by decide)) (fun i hi => by
        obtain rfl | rfl | rfl | rfl : i = 0 ∨ i = 1 ∨ i = 2 ∨ i = 3 := by omega
        · exact h4.1.symm
        · rw [h4.2.1, h2.1]
        · rw [h4.2.2.1, h2.2.1]
        · rw [h4.2.2.2, h2.2.2])
      omega
  have HZ0 : Hid (okB a = false → wd (wk a) 0 = 0) := fun h => by rw [HW0.out h]; exact wd0 0
  generalize decide (wk a < 18446744073709551616) = sml at *
  generalize hlt : decide (xt a < xt b) = lt at *
  have HLT := hide hlt
  generalize hlw : decide (wk a < wk b) = lw at *
  have HLW := hide hlw
  clear hlt hlw hV hV2 hT hU
  generalize trs a = tr at *
  generalize hva : wk a = V at *
  generalize hvb : wk b = V2 at *
  generalize hxa : xt a = T at *
  generalize hxb : xt b = U at *
  generalize hoa : okB a = oa at *
  generalize hob : okB b = ob at *
  clear hva hvb hxa hxb hoa hob
  have J0 := hide (Rc.nil w)
  go_enter Try.func5, Try.ntmps5
  go_upto_region 2 with (first | (go_at_call 32; refine (H1.out _).mono ?_; rintro e w1 ⟨rfl, be⟩; have J1 := hide ((J0.out.next be).new 24 (wn V)); clear be) | refine wpList_allocA AW rfl rfl ?_ | refine wpList_store_newA AW rfl _ _ rfl _ rfl (wn V) (wn_size _) (wn_one _) rfl rfl ?_)
  try simp only [Act.put, List.setIfInBounds_toArray, List.set_cons_succ, List.set_cons_zero]
  generalize w1.alloc (.cells (wn V) 24) = W1 at *
  generalize w1.heap.size = g5 at *
  go_upto_region 3 with (first | (go_at_call 33; refine (H2.out _).mono ?_; rintro e w2 ⟨rfl, be⟩; have J2 := hide ((J1.out.next be).new 46 (bn V)); clear be) | refine wpList_allocA AN rfl rfl ?_ | refine wpList_store_newA AN rfl _ _ rfl _ rfl (bn V) (bn_size _) (bn_one _) rfl rfl ?_)
  try simp only [Act.put, List.setIfInBounds_toArray, List.set_cons_succ, List.set_cons_zero]
  generalize w2.alloc (.cells (bn V) 46) = W2 at *
  generalize w2.heap.size = g7 at *
  go_upto_region 4 with (first | (go_at_call 32; refine (H3.out _).mono ?_; rintro e w3 ⟨rfl, be⟩; have J3 := hide ((J2.out.next be).new 24 (wn V2)); clear be) | refine wpList_allocA AW rfl rfl ?_ | refine wpList_store_newA AW rfl _ _ rfl _ rfl (wn V2) (wn_size _) (wn_one _) rfl rfl ?_)
  try simp only [Act.put, List.setIfInBounds_toArray, List.set_cons_succ, List.set_cons_zero]
  generalize w3.alloc (.cells (wn V2) 24) = W3 at *
  generalize w3.heap.size = g9 at *
  go_upto_region 5 with (first | (go_at_call 19; refine (H4.out _).mono ?_; rintro e w4 ⟨rfl, be⟩; have J4 := hide ((J3.out.next be).new 46 (bn T)); clear be) | refine wpList_allocA AN rfl rfl ?_ | refine wpList_store_newA AN rfl _ _ rfl _ rfl (bn T) (bn_size _) (bn_one _) rfl rfl ?_)
  try simp only [Act.put, List.setIfInBounds_toArray, List.set_cons_succ, List.set_cons_zero]
  generalize w4.alloc (.cells (bn T) 46) = W4 at *
  generalize w4.heap.size = g11 at *
  go_upto_region 6 with (first | (go_at_call 19; refine (H5.out _).mono ?_; rintro e w5 ⟨rfl, be⟩; have J5 := hide ((J4.out.next be).new 46 (bn U)); clear be) | refine wpList_allocA AN rfl rfl ?_ | refine wpList_store_newA AN rfl _ _ rfl _ rfl (bn U) (bn_size _) (bn_one _) rfl rfl ?_)
  try simp only [Act.put, List.setIfInBounds_toArray, List.set_cons_succ, List.set_cons_zero]
  generalize w5.alloc (.cells (bn U) 46) = W5 at *
  generalize w5.heap.size = g13 at *
  go_upto_region 7 with (first | (go_at_call 34; refine (H6.out _).mono ?_; rintro e w6 ⟨rfl, be⟩; have J6 := hide (J5.out.next be); clear be))
  clear J0 J1 J2 J3 J4 J5 H1 H2 H3 H4 H5 H6
  obtain ⟨ea, hea⟩ : ∃ ea : Int, ea = (if oa = true then 0 else 50) := ⟨_, rfl⟩
  obtain ⟨eb, heb⟩ : ∃ eb : Int, eb = (if ob = true then 0 else 50) := ⟨_, rfl⟩
  obtain ⟨nn, hnn⟩ : ∃ nn : Nat, nn = (if oa = true then tr else 0) := ⟨_, rfl⟩
  rw [← hea, ← heb, ← hnn]
  have HE := hide (And.intro hea (And.intro heb hnn))
  clear hea heb hnn
  go_cut [90] from 48 to 89 (fun s90 wx => s90 = .bool false ∧ Hid (Rc w wx [(g13, 46, bn U), (g11, 46, bn T), (g9, 24, wn V2), (g7, 46, bn V), (g5, 24, wn V)]))
  case first =>
    obtain ⟨I, hne, F, i0, h0, hJ, hcl⟩ := J6.out.cls
    obtain ⟨hea, -, -⟩ := HE.out
    cases oa
    all_goals
      cases ob
      all_goals
        simp only [Bool.false_eq_true, if_false, if_true] at hea
        subst hea
        clear HE HW0 HWK HBIG HZ0 HLT HLW H10 H11
        simp only [Bool.false_and, Bool.true_and] at H7
        refine wp_region_class_lit (by kernel_rfl) (by kernel_rfl) i0 h0 ?_
        repeat (first | ((go_big_quiet_want; first | refine quiet_loadA AW _ (by rfl) g5 (by rfl) (wn V) (wn_size _) 24 (Rc.of hJ (by simp)) ?_ | refine quiet_loadA AN _ (by rfl) g7 (by rfl) (bn V) (bn_size _) 46 (Rc.of hJ (by simp)) ?_ | refine quiet_loadA AN _ (by rfl) g11 (by rfl) (bn T) (bn_size _) 46 (Rc.of hJ (by simp)) ?_ | refine quiet_loadA AN _ (by rfl) g13 (by rfl) (bn U) (bn_size _) 46 (Rc.of hJ (by simp)) ?_ | refine quiet_neqW 24 _ _ _ (by rfl) (wn V) (wn V) (by rfl) (by rfl) eqgW true eV.out ?_); go_big_quiet_on; simp only [Act.put, List.setIfInBounds_toArray, List.set_cons_succ, List.set_cons_zero, Bool.not_true]) | go_big_quiet_step (first | (go_at_call 22; exact class_of hcl.out (HAw.out _)) | (go_at_call 23; exact class_of hcl.out (H8.out _)) | (go_at_call 35; exact class_of hcl.out (H7.out _)) | (go_at_call 29; exact class_of hcl.out (H9.out _))))
        refine wpQuiet_nil ?_
        rintro _ ⟨iq, rfl⟩
        go_wp2_with fail
        go_meet
        exact ⟨rfl, hide (hJ.out iq)⟩
  obtain ⟨rfl, J7⟩ := hcut
  clear J6 HAw H8 H9 eV
  generalize wc = W7 at *
  have rows := hide (J7.out.at (g := g5) (t := 24) (c := wn V) (by simp))
  have c0 := (Nd.of_heap (W := W7) (f := wd V) (k := 4) rows.out).cell (show 0 < 4 by omega)
  have c1 := (Nd.of_heap (W := W7) (f := wd V) (k := 4) rows.out).cell (show 1 < 4 by omega)
  have c2 := (Nd.of_heap (W := W7) (f := wd V) (k := 4) rows.out).cell (show 2 < 4 by omega)
  have c3 := (Nd.of_heap (W := W7) (f := wd V) (k := 4) rows.out).cell (show 3 < 4 by omega)
  generalize wd V 0 = x0 at *
  generalize wd V 1 = x1 at *
  generalize wd V 2 = x2 at *
  generalize wd V 3 = x3 at *
  go_upto_region 10 with fail
  go_cut [105] from 93 to 104 (fun s105 wx => s105 = .bool (!sml) ∧ wx = W7)
  case first =>
    rcases HBIG.out with ⟨rfl, -, rfl, rfl, rfl⟩ | ⟨rfl, -, hn3⟩
    · go_wp2_with fail
      go_meet
      exact ⟨rfl, rfl⟩
    · by_cases h1 : x1 = 0
      · subst h1
        by_cases h2 : x2 = 0
        · subst h2
          have h3 : ((x3 : Int) != 0) = true := by
            rw [bne_iff_ne]
            intro h
            exact hn3 ⟨rfl, rfl, by omega⟩
          clear hn3
          go_wp2_with fail
          go_meet
          exact ⟨rfl, rfl⟩
        · have h3 : ((x2 : Int) != 0) = true := by
            rw [bne_iff_ne]
            omega
          clear hn3 h2
          go_wp2_with fail
          go_meet
          exact ⟨rfl, rfl⟩
      · have h3 : ((x1 : Int) != 0) = true := by
          rw [bne_iff_ne]
          omega
        clear hn3 h1
        go_wp2_with fail
        go_meet
        exact ⟨rfl, rfl⟩
  obtain ⟨rfl, hwc⟩ := hcut
  subst wc
  clear c0 c1 c2 c3 rows
  go_upto_if 105 with fail
  obtain ⟨wt, hwt⟩ : ∃ wt : Nat, wt = (if sml = true then x0 else 18446744073709551615) := ⟨_, rfl⟩
  go_cut [17] from 106 to 106 (fun s17 wx => s17 = .int .u64 (wt : Int) ∧ wx = W7)
  case first =>
    subst hwt
    cases sml
    · rw [Bool.not_false]
      go_wp2_with fail
      go_meet
      exact ⟨rfl, rfl⟩
    · rw [Bool.not_true]
      go_wp2_with fail
      go_meet
      exact ⟨rfl, rfl⟩
  obtain ⟨rfl, hwc⟩ := hcut
  subst wc
  have HWT : Hid (oa = true → nn = wt) := fun h => by
    rw [HE.out.2.2, h, if_pos rfl, hwt]
    rcases HBIG.out with ⟨h1, h2, _⟩ | ⟨h1, h2, _⟩
    · rw [h1, h2, if_pos rfl]
    · rw [h1, h2]
      rfl
  clear hwt HBIG HZ0
  go_upto_region 12 with fail
  go_cut [119] from 106 to 118 (fun s119 wx => s119 = .bool false ∧ wx = W7)
  case first =>
    have hE := HE.out.2.2
    have hT := HWT.out
    clear HE HWT HW0 HWK HLT HLW H7 H10 H11
    cases oa
    · simp only [Bool.false_eq_true, if_false] at hE
      have q1 : ((nn : Int) != 0) = false := by simp [hE]
      clear hE hT
      go_wp2_with fail
      go_meet
      exact ⟨rfl, rfl⟩
    · have q1 : ((nn : Int) != (wt : Int)) = false := by simp [hT rfl]
      clear hE hT
      go_wp2_with fail
      go_meet
      exact ⟨rfl, rfl⟩
  obtain ⟨rfl, hwc⟩ := hcut
  subst wc
  obtain ⟨hv, hhv⟩ : ∃ hv, hv = (oa && (ob && lt)) := ⟨_, rfl⟩
  rw [← hhv] at H7
  have HV := hide hhv
  clear hhv
  go_upto_region 14 with fail
  obtain ⟨I, hne, F, i0, h0, hJ, hcl⟩ := J7.out.cls
  cases hv
  · clear HE HWT HW0 HWK HLT HLW H10 H11 HV
    refine wp_region_class_lit (by kernel_rfl) (by kernel_rfl) i0 h0 ?_
    repeat (go_big_quiet_step (first | (go_at_call 35; exact class_of hcl.out (H7.out _))))
    refine wpQuiet_nil ?_
    rintro _ ⟨iq, rfl⟩
    go_wp2
    go_ret
    exact ⟨rfl, (hJ.out iq).bel⟩
  · have h3 := HV.out.symm
    rw [Bool.and_eq_true, Bool.and_eq_true] at h3
    obtain ⟨h4, h5, h6⟩ := h3
    have hea : ea = 0 := by rw [HE.out.1, h4]; rfl
    have heb : eb = 0 := by rw [HE.out.2.1, h5]; rfl
    have hlw : lw = false := by
      rw [← HLW.out]
      have h7 := HLT.out
      rw [h6, decide_eq_true_eq] at h7
      exact decide_eq_false (HWK.out h4 h5 h7)
    subst hea heb hlw
    clear HE HWT HW0 HWK HLT HLW HV h4 h5 h6
    refine wp_region_class_lit (by kernel_rfl) (by kernel_rfl) i0 h0 ?_
    repeat (first | ((go_big_quiet_want; first | refine quiet_loadA AW _ (by rfl) g9 (by rfl) (wn V2) (wn_size _) 24 (Rc.of hJ (by simp)) ?_ | refine quiet_loadA AN _ (by rfl) g7 (by rfl) (bn V) (bn_size _) 46 (Rc.of hJ (by simp)) ?_); go_big_quiet_on; simp only [Act.put, List.setIfInBounds_toArray, List.set_cons_succ, List.set_cons_zero]) | go_big_quiet_step (first | (go_at_call 35; exact class_of hcl.out (H7.out _)) | (go_at_call 20; exact class_of hcl.out (H10.out _)) | (go_at_call 29; exact class_of hcl.out (H11.out _))))
    refine wpQuiet_nil ?_
    rintro _ ⟨iq, rfl⟩
    go_wp2
    go_ret
    exact ⟨rfl, (hJ.out iq).bel⟩
end
end Go.Proofs.Ytmfpnlnhebjelaa
