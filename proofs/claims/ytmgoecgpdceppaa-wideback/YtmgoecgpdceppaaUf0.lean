/- The law WideBack: its walk. -/
import Derived.Test.YtmgoecgpdceppaaUe0
import Derived.Test.YtmgoecgpdceppaaZi
import Derived.Test.YtmgoecgpdceppaaWy
namespace Go.Proofs.Ytmgoecgpdceppaa
open Go.RowKit
open Go.Deep
theorem and511 (n : Int) : bits .and .i64 n 511 = n % 512 := by
  have e : (BitVec.ofInt 64 n &&& BitVec.ofInt 64 511).toNat = (n % ((2 ^ 64 : Nat) : Int)).toNat % 2 ^ 9 := by
    rw [BitVec.toNat_and, BitVec.toNat_ofInt, show (BitVec.ofInt 64 511).toNat = 2 ^ 9 - 1 by decide, Nat.and_two_pow_sub_one_eq_mod]
  show IntKind.i64.wrap ((BitVec.ofInt 64 n &&& BitVec.ofInt 64 511).toNat : Nat) = n % 512
  rw [e, IntKind.wrap_i64]
  omega
theorem back_sum (m n : Nat) (hm : m < M) (hn : n < M) : wn (df ((m + n) % M) n) = wn m ∧ decide ((m + n) % M < n) = decide (M ≤ m + n) ∧ decide (cmpZ ((m + n) % M) m < 0) = decide (M ≤ m + n) := by
  by_cases h : M ≤ m + n
  · have e : (m + n) % M = m + n - M := by rw [Nat.mod_eq_sub_mod h, Nat.mod_eq_of_lt (by omega)]
    rw [e]
    refine ⟨?_, ?_, ?_⟩
    · rw [df, show m + n - M + M - n = m by omega]
    · rw [Bool.eq_iff_iff, decide_eq_true_eq, decide_eq_true_eq]; omega
    · unfold cmpZ
      rw [if_pos (by omega)]
      simp [h]
  · have e : (m + n) % M = m + n := Nat.mod_eq_of_lt (by omega)
    rw [e]
    refine ⟨?_, ?_, ?_⟩
    · rw [df, show m + n + M - n = m + M by omega, ← wn_mod (m + M), Nat.add_mod_right, wn_mod]
    · rw [Bool.eq_iff_iff, decide_eq_true_eq, decide_eq_true_eq]; omega
    · unfold cmpZ
      rw [if_neg (by omega)]
      rw [show decide (M ≤ m + n) = false by simp; omega]
      split <;> simp
theorem cmp_geB (m n : Nat) (h : m < n) : cmpZ m n = -1 := by unfold cmpZ; rw [if_pos h]
theorem Rs.one {w W : World} {l : List (Nat × TypeId × Nat)} {g n : Nat} {t : TypeId} (j : Rs w W l) (h : (g, t, n) ∈ l) : Rs w W [(g, t, n)] := ⟨fun p hp => by
  rw [List.mem_singleton.1 hp]
  exact j.at h, j.bel⟩
theorem div_back (m n : Nat) (h0 : 0 < n) (hm : m < M) : m / n < M ∧ m % n < M ∧ m / n * n < M ∧ m / n * n / M = 0 ∧ m / n * n + m % n = m ∧ m % n < n := by
  have h1 := Nat.div_add_mod m n
  have h2 := Nat.mod_lt m h0
  have h3 := Nat.div_le_self m n
  rw [Nat.mul_comm] at h1
  exact ⟨by omega, by omega, by omega, Nat.div_eq_of_lt (by omega), h1, h2⟩
/-- The last step: a shift that goes back. -/
theorem back_shift (m : Nat) (k : Int) (hm : m < M) (h0 : 0 ≤ k) : ∃ (l : Nat) (lost : Bool), l < M ∧ (∀ W, Calls Try.prog 28 #[.agg (wn m), .int .i64 k] W fun e w' => e = .returned (.tuple #[.agg (wn l), .bool lost]) ∧ Below W.heap.size W w') ∧ (lost = false → ∀ W, Calls Try.prog 29 #[.agg (wn l), .int .i64 k] W fun e w' => e = .returned (.agg (wn m)) ∧ Below W.heap.size W w') := by
  obtain ⟨j, hj, hj2⟩ : ∃ j : Nat, sh k = j ∧ j ≤ 256 := by
    rcases (show 256 < k ∨ k ≤ 256 by omega) with h | h
    · exact ⟨256, by unfold sh; rw [if_neg (by omega), if_pos h]; rfl, by omega⟩
    · exact ⟨k.toNat, by unfold sh; rw [if_neg (by omega), if_neg (by omega)]; omega, by omega⟩
  have hl := Nat.mod_lt (m * 2 ^ j) M_pos
  refine ⟨m * 2 ^ j % M, decide (M ≤ m * 2 ^ j), hl, fun W => ?_, fun h W => ?_⟩
  · have := left_pos m k j hm hj hj2 W
    rw [← wn_mod (m * 2 ^ j)] at this
    exact this
  · have := right_pos (m * 2 ^ j % M) k j hl hj hj2 W
    have h2 := of_decide_eq_false h
    rw [Nat.mod_eq_of_lt (by omega), Nat.mul_div_cancel _ (Nat.two_pow_pos j)] at this
    rw [Nat.mod_eq_of_lt (by omega)]
    exact this
section
set_option maxRecDepth 10000
set_option maxHeartbeats 60000000
theorem wideBack_walk (m : Nat) (hm : m < M) (n : Nat) (hn : n < M) (k : Int) (_ : -9223372036854775808 ≤ k) (_ : k ≤ 9223372036854775807) (w : World) : Calls Try.prog 8 #[.agg (wn m), .agg (wn n), .int .i64 k] w fun e w' => e = .returned (.bool true) ∧ Below w.heap.size w w' := by
  have HAw := hide fun W => awake_any W
  have HA := hide fun W => wadd_any m n hm hn W
  rw [← wn_mod (m + n)] at HA
  have hA := Nat.mod_lt (m + n) M_pos
  have HS := hide fun W => wsub_any _ n hA hn W
  obtain ⟨bs1, bs2, bs3⟩ := back_sum m n hm hn
  rw [bs1, bs2] at HS
  have HT := hide fun W => text_any m hm W
  have HB := hide fun W => back_any m hm W
  have HC := hide fun W => compare_any _ _ hA hm W
  have em := hide fun W => eqW m m hm hm W
  rw [show decide (m = m) = true by simp] at em
  have e0 := hide fun W => eqW 0 0 M_pos M_pos W
  rw [show decide (0 = 0) = true by decide] at e0
  obtain ⟨L, lost, hLM, HLf, HRt⟩ := back_shift m (k % 512) hm (by omega)
  have HL := hide HLf
  have HR := hide HRt
  have ha := and511 k
  have J0 := hide (Rs.start2 w 24 m n)
  have HM := hide (And.intro hm hn)
  generalize (m + n) % M = A at *
  generalize decide (M ≤ m + n) = oa at *
  generalize txt m (nd m) = S at *
  generalize cmpZ A m = z at *
  generalize k % 512 = K at *
  have b1 : (oa != oa) = false := by simp
  clear hm hn hA bs1 bs2 HLf HRt hLM
  go_enter Try.func8, Try.ntmps8
  go_upto_region 1 with (first | refine wpList_boxA rfl _ rfl (wn m) rfl ?_ | refine wpList_boxA rfl _ rfl (wn n) rfl ?_)
  generalize (w.alloc (.cells (wn m) 24)).alloc (.cells (wn n) 24) = W0 at *
  go_upto_region 3 with (go_at_call 9; refine (HAw.out _).mono ?_; rintro e w1 ⟨rfl, be⟩; have J1 := hide (J0.out.next be); clear be)
  have ra := hide (J1.out.at (g := w.heap.size) (t := 24) (n := m) (by simp))
  have rb := hide (J1.out.at (g := w.heap.size + 1) (t := 24) (n := n) (by simp))
  go_upto_region 4 with (first | refine wpList_loadW AW rfl _ rfl (w.heap.size) rfl (wn m) (wn_size _) 24 ra.out ?_ | refine wpList_loadW AW rfl _ rfl (w.heap.size + 1) rfl (wn n) (wn_size _) 24 rb.out ?_ | (go_at_call 10; refine (HA.out _).mono ?_; rintro e w2 ⟨rfl, be⟩; have J2 := hide ((J1.out.next be).new 24 A); clear be) | refine wpList_allocA AW rfl rfl ?_ | refine wpList_store_newA AW rfl _ _ rfl _ rfl (wn A) (wn_size _) (wn_one _) rfl rfl ?_)
  generalize w2.alloc (.cells (wn A) 24) = W2 at *
  generalize w2.heap.size = g7 at *
  clear J0 J1 ra rb HA HAw
  have rb := hide (J2.out.at (g := w.heap.size + 1) (t := 24) (n := n) (by simp))
  have rx := hide (J2.out.at (g := g7) (t := 24) (n := A) (by simp))
  go_upto_region 5 with (first | refine wpList_loadW AW rfl _ rfl (g7) rfl (wn A) (wn_size _) 24 rx.out ?_ | refine wpList_loadW AW rfl _ rfl (w.heap.size + 1) rfl (wn n) (wn_size _) 24 rb.out ?_ | (go_at_call 12; refine (HS.out _).mono ?_; rintro e w3 ⟨rfl, be⟩; have J3 := hide ((J2.out.next be).new 24 m); clear be) | refine wpList_allocA AW rfl rfl ?_ | refine wpList_store_newA AW rfl _ _ rfl _ rfl (wn m) (wn_size _) (wn_one _) rfl rfl ?_)
  generalize w3.alloc (.cells (wn m) 24) = W3 at *
  generalize w3.heap.size = g9 at *
  clear J2 rx rb HS
  have ra := hide (J3.out.at (g := w.heap.size) (t := 24) (n := m) (by simp))
  go_upto_region 6 with (first | refine wpList_loadW AW rfl _ rfl (w.heap.size) rfl (wn m) (wn_size _) 24 ra.out ?_ | (go_at_call 32; refine (HT.out _).mono ?_; rintro e w4 ⟨rfl, be⟩; have J4 := hide (J3.out.next be); clear be) | (go_at_call 41; refine (HB.out _).mono ?_; rintro e w5 ⟨rfl, be⟩; have J5 := hide ((J4.out.next be).new 24 m); clear be) | refine wpList_allocA AW rfl rfl ?_ | refine wpList_store_newA AW rfl _ _ rfl _ rfl (wn m) (wn_size _) (wn_one _) rfl rfl ?_)
  generalize w5.alloc (.cells (wn m) 24) = W5 at *
  generalize w5.heap.size = g11 at *
  clear J3 J4 ra HT HB
  have ra := hide (J5.out.at (g := w.heap.size) (t := 24) (n := m) (by simp))
  have ry := hide (J5.out.at (g := g9) (t := 24) (n := m) (by simp))
  have rk := hide (J5.out.at (g := g11) (t := 24) (n := m) (by simp))
  have rx := hide (J5.out.at (g := g7) (t := 24) (n := A) (by simp))
  go_upto_region 8 with (first | refine wpList_loadW AW rfl _ rfl (w.heap.size) rfl (wn m) (wn_size _) 24 ra.out ?_ | refine wpList_loadW AW rfl _ rfl (g9) rfl (wn m) (wn_size _) 24 ry.out ?_ | refine wpList_loadW AW rfl _ rfl (g11) rfl (wn m) (wn_size _) 24 rk.out ?_ | refine wpList_loadW AW rfl _ rfl (g7) rfl (wn A) (wn_size _) 24 rx.out ?_ | refine wpList_neq 24 _ _ _ rfl (wn m) (wn m) rfl rfl rfl eqgW true em.out ?_ | (go_at_call 16; refine (HC.out _).mono ?_; rintro e w6 ⟨rfl, be⟩; have J6 := hide (J5.out.next be); clear be))
  clear J5 ra ry rk rx HC
  have ra := hide (J6.out.at (g := w.heap.size) (t := 24) (n := m) (by simp))
  have rb := hide (J6.out.at (g := w.heap.size + 1) (t := 24) (n := n) (by simp))
  by_cases hz : n = 0
  case' pos =>
    subst hz
    have HD := hide fun W => div_zero m W
    go_upto_region 9 with (first | refine wpList_loadW AW rfl _ rfl (w.heap.size) rfl (wn m) (wn_size _) 24 ra.out ?_ | refine wpList_loadW AW rfl _ rfl (w.heap.size + 1) rfl (wn 0) (wn_size _) 24 rb.out ?_ | (go_at_call 21; refine (HD.out _).mono ?_; rintro e w8 ⟨rfl, be⟩; have J8 := hide ((J6.out.next be).two 24 0 0); clear be) | refine wpList_allocA AW rfl rfl ?_ | refine wpList_storeA AW rfl _ _ rfl _ (wn 0) (wn_size _) (wn_one _) rfl rfl (wn 0) (wn_size _) 24 (blk2x w8 (.cells (wn 0) 24) (.cells (wn 0) 24)).1 ?_ | refine wpList_storeA AW rfl _ _ rfl _ (wn 0) (wn_size _) (wn_one _) rfl rfl (wn 0) (wn_size _) 24 (blk2s w8 (.cells (wn 0) 24) (.cells (wn 0) 24) (wn 0)) ?_)
    try simp only [Act.put, List.setIfInBounds_toArray, List.set_cons_succ, List.set_cons_zero, hsz]
    generalize (((w8.alloc (.cells (wn 0) 24)).alloc (.cells (wn 0) 24)).setRow w8.heap.size (wn 0)).setRow (w8.heap.size + 1) (wn 0) = W8 at *
    generalize w8.heap.size = g14 at *
    have JT := hide (J8.out.one (g := w.heap.size) (t := 24) (n := m) (by simp))
    clear J6 J8 ra rb HD
    go_upto_region 14 with fail
    generalize W8 = WT at *
  case' neg =>
    have HD := hide fun W => div_any m n HM.out.1 (by omega) HM.out.2 W
    obtain ⟨d1, d2, d3, d4, d5, d6⟩ := div_back m n (by omega) HM.out.1
    have HP := hide fun W => mul_any _ n d1 HM.out.2 W
    rw [d4] at HP
    have HA3 := hide fun W => wadd_any _ _ d3 d2 W
    rw [d5, show decide (M ≤ m) = false by simp; exact HM.out.1] at HA3
    have HC2 := hide fun W => compare_any _ _ d2 HM.out.2 W
    rw [cmp_geB _ _ d6] at HC2
    generalize m / n * n = P at *
    generalize m / n = Q at *
    generalize m % n = R at *
    clear hz d1 d2 d3 d4 d5 d6
    go_upto_region 10 with (first | refine wpList_loadW AW rfl _ rfl (w.heap.size) rfl (wn m) (wn_size _) 24 ra.out ?_ | refine wpList_loadW AW rfl _ rfl (w.heap.size + 1) rfl (wn n) (wn_size _) 24 rb.out ?_ | (go_at_call 21; refine (HD.out _).mono ?_; rintro e w8 ⟨rfl, be⟩; have J8 := hide ((J6.out.next be).two 24 Q R); clear be) | refine wpList_allocA AW rfl rfl ?_ | refine wpList_storeA AW rfl _ _ rfl _ (wn Q) (wn_size _) (wn_one _) rfl rfl (wn 0) (wn_size _) 24 (blk2x w8 (.cells (wn 0) 24) (.cells (wn 0) 24)).1 ?_ | refine wpList_storeA AW rfl _ _ rfl _ (wn R) (wn_size _) (wn_one _) rfl rfl (wn 0) (wn_size _) 24 (blk2s w8 (.cells (wn 0) 24) (.cells (wn 0) 24) (wn Q)) ?_)
    try simp only [Act.put, List.setIfInBounds_toArray, List.set_cons_succ, List.set_cons_zero, hsz]
    generalize (((w8.alloc (.cells (wn 0) 24)).alloc (.cells (wn 0) 24)).setRow w8.heap.size (wn Q)).setRow (w8.heap.size + 1) (wn R) = W8 at *
    generalize w8.heap.size = g14 at *
    clear J6 ra rb HD
    have rq := hide (J8.out.at (g := g14) (t := 24) (n := Q) (by simp))
    have rb := hide (J8.out.at (g := w.heap.size + 1) (t := 24) (n := n) (by simp))
    go_upto_region 11 with (first | refine wpList_loadW AW rfl _ rfl (g14) rfl (wn Q) (wn_size _) 24 rq.out ?_ | refine wpList_loadW AW rfl _ rfl (w.heap.size + 1) rfl (wn n) (wn_size _) 24 rb.out ?_ | (go_at_call 14; refine (HP.out _).mono ?_; rintro e w9 ⟨rfl, be⟩; have J9 := hide ((J8.out.next be).two 24 P 0); clear be) | refine wpList_allocA AW rfl rfl ?_ | refine wpList_storeA AW rfl _ _ rfl _ (wn P) (wn_size _) (wn_one _) rfl rfl (wn 0) (wn_size _) 24 (blk2x w9 (.cells (wn 0) 24) (.cells (wn 0) 24)).1 ?_ | refine wpList_storeA AW rfl _ _ rfl _ (wn 0) (wn_size _) (wn_one _) rfl rfl (wn 0) (wn_size _) 24 (blk2s w9 (.cells (wn 0) 24) (.cells (wn 0) 24) (wn P)) ?_)
    try simp only [Act.put, List.setIfInBounds_toArray, List.set_cons_succ, List.set_cons_zero, hsz]
    generalize (((w9.alloc (.cells (wn 0) 24)).alloc (.cells (wn 0) 24)).setRow w9.heap.size (wn P)).setRow (w9.heap.size + 1) (wn 0) = W9 at *
    generalize w9.heap.size = g17 at *
    clear J8 rq rb HP
    have rp := hide (J9.out.at (g := g17) (t := 24) (n := P) (by simp))
    have rr := hide (J9.out.at (g := g14 + 1) (t := 24) (n := R) (by simp))
    go_upto_region 12 with (first | refine wpList_loadW AW rfl _ rfl (g17) rfl (wn P) (wn_size _) 24 rp.out ?_ | refine wpList_loadW AW rfl _ rfl (g14 + 1) rfl (wn R) (wn_size _) 24 rr.out ?_ | (go_at_call 10; refine (HA3.out _).mono ?_; rintro e w10 ⟨rfl, be⟩; have J10 := hide ((J9.out.next be).new 24 m); clear be) | refine wpList_allocA AW rfl rfl ?_ | refine wpList_store_newA AW rfl _ _ rfl _ rfl (wn m) (wn_size _) (wn_one _) rfl rfl ?_)
    generalize w10.alloc (.cells (wn m) 24) = W10 at *
    generalize w10.heap.size = g19 at *
    clear J9 rp rr HA3
    have rh := hide (J10.out.at (g := g17 + 1) (t := 24) (n := 0) (by simp))
    have rs := hide (J10.out.at (g := g19) (t := 24) (n := m) (by simp))
    have ra := hide (J10.out.at (g := w.heap.size) (t := 24) (n := m) (by simp))
    have rr := hide (J10.out.at (g := g14 + 1) (t := 24) (n := R) (by simp))
    have rb := hide (J10.out.at (g := w.heap.size + 1) (t := 24) (n := n) (by simp))
    go_upto_region 14 with (first | refine wpList_loadW AW rfl _ rfl (g17 + 1) rfl (wn 0) (wn_size _) 24 rh.out ?_ | refine wpList_loadW AW rfl _ rfl (g19) rfl (wn m) (wn_size _) 24 rs.out ?_ | refine wpList_loadW AW rfl _ rfl (w.heap.size) rfl (wn m) (wn_size _) 24 ra.out ?_ | refine wpList_loadW AW rfl _ rfl (g14 + 1) rfl (wn R) (wn_size _) 24 rr.out ?_ | refine wpList_loadW AW rfl _ rfl (w.heap.size + 1) rfl (wn n) (wn_size _) 24 rb.out ?_ | refine wpList_build0 AW rfl rfl ?_ | refine wpList_neq 24 _ _ _ rfl (wn 0) (wn 0) rfl rfl rfl eqgW true e0.out ?_ | refine wpList_neq 24 _ _ _ rfl (wn m) (wn m) rfl rfl rfl eqgW true em.out ?_ | (go_at_call 16; refine (HC2.out _).mono ?_; rintro e w11 ⟨rfl, be⟩; have J11 := hide (J10.out.next be); clear be))
    have JT := hide (J11.out.one (g := w.heap.size) (t := 24) (n := m) (by simp))
    clear J10 J11 rh rs ra rr rb HC2
    generalize w11 = WT at *
  all_goals
    have ra := hide (JT.out.at (g := w.heap.size) (t := 24) (n := m) (by simp))
    go_upto_region 16 with (first | refine wpList_loadW AW rfl _ rfl (w.heap.size) rfl (wn m) (wn_size _) 24 ra.out ?_ | (go_at_call 28; refine (HL.out _).mono ?_; rintro e w12 ⟨rfl, be⟩; have J12 := hide ((JT.out.next be).new 24 L); clear be) | refine wpList_allocA AW rfl rfl ?_ | refine wpList_store_newA AW rfl _ _ rfl _ rfl (wn L) (wn_size _) (wn_one _) rfl rfl ?_)
    generalize w12.alloc (.cells (wn L) 24) = W12 at *
    generalize w12.heap.size = g21 at *
    obtain ⟨I, hne, F, i0, h0, hJ, hcl⟩ := J12.out.cls
    clear JT ra HL
    cases lost
    · have HR2 := hide (HR.out rfl)
      refine wp_region_class_lit (by kernel_rfl) (by kernel_rfl) i0 h0 ?_
      repeat (first | ((go_big_quiet_want; first | refine quiet_loadA AW _ (by rfl) w.heap.size (by rfl) (wn m) (wn_size _) 24 (Rs.of hJ (by simp)) ?_ | refine quiet_loadA AW _ (by rfl) g21 (by rfl) (wn L) (wn_size _) 24 (Rs.of hJ (by simp)) ?_ | refine quiet_eql 24 _ _ _ (by rfl) (wn m) (wn m) (by rfl) (by rfl) eqgW true em.out ?_); go_big_quiet_on; simp only [Act.put, List.setIfInBounds_toArray, List.set_cons_succ, List.set_cons_zero]) | go_big_quiet_step ((go_at_call 29; exact class_of hcl.out (HR2.out _))))
      refine wpQuiet_nil ?_
      rintro _ ⟨iq, rfl⟩
      go_wp2
      go_ret
      exact ⟨rfl, (hJ.out iq).bel⟩
    · refine wp_region_class_lit (by kernel_rfl) (by kernel_rfl) i0 h0 ?_
      repeat (go_big_quiet_step (fail))
      refine wpQuiet_nil ?_
      rintro _ ⟨iq, rfl⟩
      go_wp2
      go_ret
      exact ⟨rfl, (hJ.out iq).bel⟩
end
end Go.Proofs.Ytmgoecgpdceppaa
