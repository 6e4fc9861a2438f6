/- The law WideTexts: its walk. -/
import Derived.Test.YtmfpnlnhebjelaaUj0
import Derived.Test.YtmfpnlnhebjelaaUh0
import Derived.Test.YtmfpnlnhebjelaaUi0
import Derived.Test.YtmfpnlnhebjelaaZu
import Derived.Test.YtmfpnlnhebjelaaZs
namespace Go.Proofs.Ytmfpnlnhebjelaa
open Go.RowKit
open Go.Deep
theorem parse_split (s : ByteArray) : (∃ i, i < s.size ∧ (∀ j, j < i → okp s.data.toList j) ∧ ¬ okp s.data.toList i) ∨ s.size = 0 ∨ (0 < s.size ∧ ∀ j, j < s.size → okp s.data.toList j) := by
  have key : ∀ n, n ≤ s.size → (∀ j, j < n → okp s.data.toList j) ∨ ∃ i, i < n ∧ (∀ j, j < i → okp s.data.toList j) ∧ ¬ okp s.data.toList i := by
    intro n
    induction n with
    | zero => exact fun _ => .inl fun j hj => by omega
    | succ n ih =>
      intro hn
      rcases ih (by omega) with h | ⟨i, h1, h2, h3⟩
      · by_cases hk : okp s.data.toList n
        · refine .inl fun j hj => ?_
          rcases Nat.lt_or_ge j n with h' | h'
          · exact h j h'
          · rw [show j = n by omega]
            exact hk
        · exact .inr ⟨n, by omega, h, hk⟩
      · exact .inr ⟨i, by omega, h2, h3⟩
  rcases Nat.eq_zero_or_pos s.size with h0 | h0
  · exact .inr (.inl h0)
  · rcases key s.size (Nat.le_refl _) with h | h
    · exact .inr (.inr ⟨h0, h⟩)
    · exact .inl h
theorem first_same {l : List UInt8} {i k : Nat} (h1 : ∀ j, j < i → okp l j) (h2 : ¬ okp l i) (g1 : ∀ j, j < k → okp l j) (g2 : ¬ okp l k) : i = k := by
  rcases Nat.lt_trichotomy i k with h | h | h
  · exact absurd (g1 i h) h2
  · exact h
  · exact absurd (h1 k h) g2
/-- What both Parses answer. -/
theorem parse_both (s : ByteArray) (hs : s.size ≤ 9223372036854775807) :
    (∃ i : Nat, i ≤ s.size ∧ (∀ W, Calls Try.prog 16 #[.string s] W fun e w' => e = .returned (.tuple #[.agg (wn 0), .int .i64 (i : Int), .int .i64 41]) ∧ Below W.heap.size W w') ∧ (∀ W, Calls Try.prog 17 #[.string s] W fun e w' => e = .returned (.tuple #[.agg (wn 0), .int .i64 (i : Int)]) ∧ Below W.heap.size W w')) ∨
    (∃ X : Nat, X < M ∧ (∀ W, Calls Try.prog 16 #[.string s] W fun e w' => e = .returned (.tuple #[.agg (wn X), .int .i64 0, .int .i64 0]) ∧ Below W.heap.size W w') ∧ (∀ W, Calls Try.prog 17 #[.string s] W fun e w' => e = .returned (.tuple #[.agg (wn X), .int .i64 (-1)]) ∧ Below W.heap.size W w')) := by
  rcases parse_split s with ⟨i, hi, h1, h2⟩ | h0 | ⟨h0, h1⟩
  · refine .inl ⟨i, by omega, fun W => (parse_any s hs W).mono ?_, fun W => (rparse_any s hs W).mono ?_⟩
    · rintro e w' ⟨⟨k, hk, g1, g2, rfl⟩ | ⟨g0, _⟩ | ⟨_, g1, _⟩, b⟩
      · rw [first_same h1 h2 g1 g2]
        exact ⟨rfl, b⟩
      · omega
      · exact absurd (g1 i hi) h2
    · rintro e w' ⟨⟨k, hk, g1, g2, rfl⟩ | ⟨g0, _⟩ | ⟨_, g1, _⟩, b⟩
      · rw [first_same h1 h2 g1 g2]
        exact ⟨rfl, b⟩
      · omega
      · exact absurd (g1 i hi) h2
  · refine .inl ⟨0, by omega, fun W => (parse_any s hs W).mono ?_, fun W => (rparse_any s hs W).mono ?_⟩
    · rintro e w' ⟨⟨k, hk, _⟩ | ⟨_, rfl⟩ | ⟨g0, _⟩, b⟩
      · omega
      · exact ⟨rfl, b⟩
      · omega
    · rintro e w' ⟨⟨k, hk, _⟩ | ⟨_, rfl⟩ | ⟨g0, _⟩, b⟩
      · omega
      · exact ⟨rfl, b⟩
      · omega
  · refine .inr ⟨pv s.data.toList s.size, pv_lt _ _ h1, fun W => (parse_any s hs W).mono ?_, fun W => (rparse_any s hs W).mono ?_⟩
    · rintro e w' ⟨⟨k, hk, g1, g2, rfl⟩ | ⟨g0, _⟩ | ⟨_, g1, rfl⟩, b⟩
      · exact absurd (h1 k hk) g2
      · omega
      · exact ⟨rfl, b⟩
    · rintro e w' ⟨⟨k, hk, g1, g2, rfl⟩ | ⟨g0, _⟩ | ⟨_, g1, rfl⟩, b⟩
      · exact absurd (h1 k hk) g2
      · omega
      · exact ⟨rfl, b⟩
theorem of_bytes (m : Nat) (hm : m < M) : vs 256 (by8 (byL m 32)) 32 = m := by
  rw [vs_congr 256 (g := dg 256 m) (fun i hi => by8_byL m 32 i hi), vs_dg]
  exact Nat.mod_eq_of_lt (by rw [show (256 : Nat) ^ 32 = M by decide]; exact hm)
section
set_option maxRecDepth 10000
set_option maxHeartbeats 8000000
theorem wideTexts_walk (m : Nat) (hm : m < M) (n : Nat) (hn : n < 18446744073709551616) (s : ByteArray) (hs : s.size ≤ 140737488351232) (w : World) : Calls Try.prog 3 #[.agg (wn m), .int .u64 (n : Int), .string s] w fun e w' => e = .returned (.bool true) ∧ Below w.heap.size w w' := by
  have HAw := hide fun W => awake_any W
  have H1 := hide fun W => text_any m hm W
  have H2 := hide fun W => rtext_any m hm W
  have H3 := hide fun W => hexW_any m W
  have H4 := hide fun W => rhex_any m W
  have H5 := hide fun W => bytesW_any m W
  have H6 := hide fun W => rbytes_any m W
  have H7 := hide fun W => ofW_any (byL m 32) (byL_len m 32) W
  rw [of_bytes m hm] at H7
  rw [bc_hc] at H5 H6
  have H8 := hide fun W => from_any n hn W
  have J0 : Hid (Rs w (w.alloc (.cells (wn m) 24)) [(w.heap.size, 24, m)]) := Rs.start1 w _ m
  have eH := hide fun W => eqb 29 32 Try.underlying29 (byL m 32) (byL_len m 32) W
  have eM := hide fun W => eqW m m hm hm W
  rw [show decide (m = m) = true by simp] at eM
  have hnM : n < M := Nat.lt_trans hn (by decide)
  have eN := hide fun W => eqW n n hnM hnM W
  rw [show decide (n = n) = true by simp] at eN
  have BN : Hid (∀ W, (Instr.build 24 #[(0, .int .u64 (n : Int))]).run Try.prog W = .ok (.agg (wn n)) W) := fun W => run_buildW n hn W
  have HM := hide hm
  have HP := hide (parse_both s (by omega))
  generalize txt m (nd m) = S1 at *
  generalize (⟨(hexK m 64).toArray⟩ : ByteArray) = S2 at *
  generalize byL m 32 = BL at *
  clear hm hn hs hnM
  go_enter Try.func3, Try.ntmps3
  go_upto_region 1 with (refine wpList_boxA rfl _ rfl (wn m) rfl ?_)
  generalize w.alloc (.cells (wn m) 24) = W0 at *
  obtain ⟨I, hne, F, i0, h0, hJ, hcl⟩ := J0.out.cls
  refine wp_region_class_lit (by kernel_rfl) (by kernel_rfl) i0 h0 ?_
  repeat (first | ((go_big_quiet_want; first | refine quiet_loadA AW _ (by rfl) w.heap.size (by rfl) (wn m) (wn_size _) 24 (Rs.of hJ (by simp)) ?_ | refine quiet_build1 _ (by rfl) (n : Int) (wn n) BN.out (by rfl) ?_ | refine quiet_neqW 29 _ _ _ (by rfl) (hc BL) (hc BL) (by rfl) (by rfl) eqg25 true eH.out ?_ | refine quiet_neqW 24 _ _ _ (by rfl) (wn m) (wn m) (by rfl) (by rfl) eqgW true eM.out ?_ | refine quiet_neqW 24 _ _ _ (by rfl) (wn n) (wn n) (by rfl) (by rfl) eqgW true eN.out ?_); go_big_quiet_on; simp only [Act.put, List.setIfInBounds_toArray, List.set_cons_succ, List.set_cons_zero, Bool.not_true]) | go_big_quiet_step (first | (go_at_call 6; exact class_of hcl.out (HAw.out _)) | (go_at_call 7; exact class_of hcl.out (H1.out _)) | (go_at_call 8; exact class_of hcl.out (H2.out _)) | (go_at_call 9; exact class_of hcl.out (H3.out _)) | (go_at_call 10; exact class_of hcl.out (H4.out _)) | (go_at_call 11; exact class_of hcl.out (H5.out _)) | (go_at_call 12; exact class_of hcl.out (H6.out _)) | (go_at_call 13; exact class_of hcl.out (H7.out _)) | (go_at_call 14; exact class_of hcl.out (H8.out _))))
  refine wpQuiet_nil ?_
  rintro _ ⟨iq, rfl⟩
  have J8 := hide (hJ.out iq)
  clear hJ hcl h0 J0 HAw H1 H2 H3 H4 H5 H6 H7 H8 eH eM eN BN
  generalize F iq = W8 at *
  have ra := hide (J8.out.at (g := w.heap.size) (t := 24) (n := m) (by simp))
  obtain ⟨low, is, HLow, hlow⟩ : ∃ (low : Nat) (is : Bool), Hid (∀ W, Calls Try.prog 15 #[.agg (wn m)] W fun e w' => e = .returned (.tuple #[.int .u64 (low : Int), .bool is]) ∧ Below W.heap.size W w') ∧ Hid ((is = true ∧ low = wd m 0 ∧ wd m 1 = 0 ∧ wd m 2 = 0 ∧ wd m 3 = 0) ∨ (is = false ∧ low = 0 ∧ ¬ (wd m 1 = 0 ∧ wd m 2 = 0 ∧ wd m 3 = 0))) := by
    by_cases h : m < 18446744073709551616
    · exact ⟨m, true, fun W => low_yes m HM.out h W, .inl ⟨rfl, (wd_small m h).1.symm, (wd_small m h).2⟩⟩
    · refine ⟨0, false, fun W => low_no m HM.out h W, .inr ⟨rfl, rfl, fun h2 => h ?_⟩⟩
      have h3 := wd_lt m 0
      have h4 := wd_small (wd m 0) h3
      have : m = wd m 0 := wd_ext HM.out (Nat.lt_trans h3 (by decide)) (fun i hi => by
        obtain rfl | rfl | rfl | rfl : i = 0 ∨ i = 1 ∨ i = 2 ∨ i = 3 := by omega
        · exact h4.1.symm
        · rw [h4.2.1, h2.1]
        · rw [h4.2.2.1, h2.2.1]
        · rw [h4.2.2.2, h2.2.2])
      omega
  go_upto_region 4 with (first | refine wpList_loadA AW rfl _ rfl w.heap.size rfl (wn m) (wn_size _) 24 ra.out ?_ | (go_at_call 15; refine (HLow.out _).mono ?_; rintro e w9 ⟨rfl, be⟩; have J9 := hide (J8.out.next be); clear be))
  have rows := hide (J9.out.at (g := w.heap.size) (t := 24) (n := m) (by simp))
  have c0 := (Nd.of_heap (W := w9) (f := wd m) (k := 4) rows.out).cell (show 0 < 4 by omega)
  have c1 := (Nd.of_heap (W := w9) (f := wd m) (k := 4) rows.out).cell (show 1 < 4 by omega)
  have c2 := (Nd.of_heap (W := w9) (f := wd m) (k := 4) rows.out).cell (show 2 < 4 by omega)
  have c3 := (Nd.of_heap (W := w9) (f := wd m) (k := 4) rows.out).cell (show 3 < 4 by omega)
  clear HLow J8 ra
  generalize wd m 0 = x0 at *
  generalize wd m 1 = x1 at *
  generalize wd m 2 = x2 at *
  generalize wd m 3 = x3 at *
  go_cut [9] from 57 to 69 (fun s9 wx => s9 = .bool is ∧ wx = w9)
  case first =>
    rcases hlow.out with ⟨rfl, -, rfl, rfl, rfl⟩ | ⟨rfl, -, hn3⟩
    · go_wp2_with fail
      go_meet
      exact ⟨rfl, rfl⟩
    · by_cases h1 : x1 = 0
      · subst h1
        by_cases h2 : x2 = 0
        · subst h2
          have h3 : ((x3 : Int) == 0) = false := by
            rw [beq_eq_false_iff_ne]
            intro h
            exact hn3 ⟨rfl, rfl, by omega⟩
          clear hn3
          go_wp2_with fail
          go_meet
          exact ⟨rfl, rfl⟩
        · have h3 : ((x2 : Int) == 0) = false := by
            rw [beq_eq_false_iff_ne]
            omega
          clear hn3 h2
          go_wp2_with fail
          go_meet
          exact ⟨rfl, rfl⟩
      · have h3 : ((x1 : Int) == 0) = false := by
          rw [beq_eq_false_iff_ne]
          omega
        clear hn3 h1
        go_wp2_with fail
        go_meet
        exact ⟨rfl, rfl⟩
  obtain ⟨rfl, hwc⟩ := hcut
  subst wc
  go_upto_region 5 with fail
  go_cut [89] from 70 to 88 (fun s89 wx => s89 = .bool false ∧ wx = w9)
  case first =>
    rcases hlow.out with ⟨rfl, hl, -⟩ | ⟨rfl, hl, -⟩
    · have q1 : ((low : Int) == (x0 : Int)) = true := by simp [hl]
      have q2 : ((low : Int) != (x0 : Int)) = false := by simp [hl]
      clear hl hlow
      go_wp2_with fail
      go_meet
      exact ⟨rfl, rfl⟩
    · have q1 : ((low : Int) == 0) = true := by simp [hl]
      have q2 : ((low : Int) != 0) = false := by simp [hl]
      clear hl hlow
      go_wp2_with fail
      go_meet
      exact ⟨rfl, rfl⟩
  obtain ⟨rfl, hwc⟩ := hcut
  subst wc
  clear c0 c1 c2 c3 hlow
  rcases HP.out with ⟨i, _, P1, P2⟩ | ⟨X, hX, P1, P2⟩
  · have HP1 := hide P1
    have HP2 := hide P2
    have e0 := hide fun W => eqW 0 0 M_pos M_pos W
    rw [show decide (0 = 0) = true by decide] at e0
    clear P1 P2 HP
    have i0 : (0 : Int) ≤ i := by omega
    go_upto_region 8 with (first | (go_at_call 16; refine (HP1.out _).mono ?_; rintro e w10 ⟨rfl, be⟩; have J10 := hide ((J9.out.next be).new 24 0); clear be) | refine wpList_allocA AW rfl rfl ?_ | refine wpList_store_newA AW rfl _ _ rfl _ rfl (wn 0) (wn_size _) (wn_one _) rfl rfl ?_)
    try simp only [Act.put, List.setIfInBounds_toArray, List.set_cons_succ, List.set_cons_zero]
    generalize w10.alloc (.cells (wn 0) 24) = W10 at *
    generalize w10.heap.size = g10 at *
    go_upto_region 9 with (first | (go_at_call 17; refine (HP2.out _).mono ?_; rintro e w11 ⟨rfl, be⟩; have J11 := hide ((J10.out.next be).new 23 0); clear be) | refine wpList_allocA AR rfl rfl ?_ | refine wpList_store_newA AR rfl _ _ rfl _ rfl (wn 0) (wn_size _) (wn_one _) rfl rfl ?_)
    try simp only [Act.put, List.setIfInBounds_toArray, List.set_cons_succ, List.set_cons_zero]
    generalize w11.alloc (.cells (wn 0) 23) = W11 at *
    generalize w11.heap.size = g11 at *
    have r10 := hide (J11.out.at (g := g10) (t := 24) (n := 0) (by simp))
    go_wp2_with (first | refine wpList_loadA AW rfl _ rfl g10 rfl (wn 0) (wn_size _) 24 r10.out ?_ | refine wpList_buildA AW rfl rfl ?_ | refine wpList_eql 24 _ _ _ rfl (wn 0) (wn 0) rfl rfl rfl eqgW true e0.out ?_)
    go_ret
    exact ⟨rfl, J11.out.bel⟩
  · have HP1 := hide P1
    have HP2 := hide P2
    have e0 := hide fun W => eqW X X hX hX W
    rw [show decide (X = X) = true by simp] at e0
    clear P1 P2 HP hX
    go_upto_region 8 with (first | (go_at_call 16; refine (HP1.out _).mono ?_; rintro e w10 ⟨rfl, be⟩; have J10 := hide ((J9.out.next be).new 24 X); clear be) | refine wpList_allocA AW rfl rfl ?_ | refine wpList_store_newA AW rfl _ _ rfl _ rfl (wn X) (wn_size _) (wn_one _) rfl rfl ?_)
    try simp only [Act.put, List.setIfInBounds_toArray, List.set_cons_succ, List.set_cons_zero]
    generalize w10.alloc (.cells (wn X) 24) = W10 at *
    generalize w10.heap.size = g10 at *
    go_upto_region 9 with (first | (go_at_call 17; refine (HP2.out _).mono ?_; rintro e w11 ⟨rfl, be⟩; have J11 := hide ((J10.out.next be).new 23 X); clear be) | refine wpList_allocA AR rfl rfl ?_ | refine wpList_store_newA AR rfl _ _ rfl _ rfl (wn X) (wn_size _) (wn_one _) rfl rfl ?_)
    try simp only [Act.put, List.setIfInBounds_toArray, List.set_cons_succ, List.set_cons_zero]
    generalize w11.alloc (.cells (wn X) 23) = W11 at *
    generalize w11.heap.size = g11 at *
    have r10 := hide (J11.out.at (g := g10) (t := 24) (n := X) (by simp))
    have r11 := hide (J11.out.at (g := g11) (t := 23) (n := X) (by simp))
    go_wp2_with (first | refine wpList_loadA AW rfl _ rfl g10 rfl (wn X) (wn_size _) 24 r10.out ?_ | refine wpList_loadA AR rfl _ rfl g11 rfl (wn X) (wn_size _) 23 r11.out ?_ | refine wpList_eql 24 _ _ _ rfl (wn X) (wn X) rfl rfl rfl eqgW true e0.out ?_)
    go_ret
    exact ⟨rfl, J11.out.bel⟩
end
end Go.Proofs.Ytmfpnlnhebjelaa
