/- The contracts of wide.Sub, From, Zero, Compare, Low, Not. -/
import Derived.Test.YtmfpnlnhebjelaaWc
namespace Go.Proofs.Ytmfpnlnhebjelaa
open Go.RowKit
open Go.Deep
/-- m less n, as a number of 256 bits. -/
def df (m n : Nat) : Nat := m + M - n
theorem wd_M (m i : Nat) (h : i < 4) : wd (m + M) i = wd m i := by
  rw [← wd_mod (m + M) i h, Nat.add_mod_right, wd_mod m i h]
theorem df_add (m n : Nat) (hn : n < M) : df m n + n = m + M := by unfold df; omega
theorem df_word (m n i : Nat) (hn : n < M) (h : i < 4) : wd m i = (wd (df m n) i + wd n i + cy (df m n) n i) % 18446744073709551616 := by
  rw [add_word, df_add m n hn, wd_M m i h]
theorem df_run (x d y c : Nat) (hd : d < 18446744073709551616) (hy : y < 18446744073709551616) (hc : c ≤ 1) (hx : x = (d + y + c) % 18446744073709551616) : (x + 18446744073709551616 - y - c) % 18446744073709551616 = d ∧ (if x < y + c then 1 else 0) = (d + y + c) / 18446744073709551616 := by
  subst hx
  refine ⟨by omega, ?_⟩
  split <;> omega
theorem df_sub (m n i : Nat) (hn : n < M) (h : i < 4) : (wd m i + 18446744073709551616 - wd n i - cy (df m n) n i) % 18446744073709551616 = wd (df m n) i ∧ (if wd m i < wd n i + cy (df m n) n i then 1 else 0) = cy (df m n) n (i + 1) := by
  rw [← cy_step]
  exact df_run _ _ _ _ (wd_lt _ _) (wd_lt _ _) (cy_le _ _ _) (df_word m n i hn h)
theorem df_end (m n : Nat) (hm : m < M) (hn : n < M) : cy (df m n) n 4 = if m < n then 1 else 0 := by
  unfold cy df
  rw [← M_eq, Nat.mod_eq_of_lt hn]
  split
  · rename_i h
    rw [Nat.mod_eq_of_lt (by omega), show m + M - n + n = M + m by omega, Nat.add_div_left _ M_pos, Nat.div_eq_of_lt hm]
  · rename_i h
    rw [show m + M - n = m - n + M by omega, Nat.add_mod_right, Nat.mod_eq_of_lt (by omega), show m - n + n = m by omega, Nat.div_eq_of_lt hm]
section
set_option maxRecDepth 10000
set_option maxHeartbeats 1000000
theorem wsub_any (m n : Nat) (hm : m < M) (hn : n < M) (w : World) : Calls Try.prog 61 #[.agg (wn m), .agg (wn n)] w fun e w' => e = .returned (.tuple #[.agg (wn (df m n)), .bool (decide (m < n))]) ∧ Below w.heap.size w w' := by
  have J0 := hide ((Ad.start w 24 m n).congr (fun i _ => wf_zero (df m n) i))
  go_enter Try.func61, Try.ntmps61
  go_wp2_with (first | refine wpList_boxA rfl _ rfl (wn m) rfl ?_ | refine wpList_boxA rfl _ rfl (wn n) rfl ?_ | refine wpList_allocA AW rfl rfl ?_)
  generalize (((w.alloc (.cells (wn m) 24)).alloc (.cells (wn n) 24)).alloc (.cells (wn 0) 24)).alloc (.cells (wn 0) 24) = W0 at *
  go_loopw [7, 8, 9] (fun c _ d wr => ∃ i : Nat, i ≤ 4 ∧ c = .int .u64 ((cy (df m n) n i : Nat) : Int) ∧ d = .int .i64 i ∧ Hid (Ad w wr 24 m n (wf (df m n) i))) (fun _ _ d _ => (4 - intOf d).toNat)
  case atStart => exact ⟨0, by omega, by rw [cy_zero]; rfl, rfl, J0⟩
  case round =>
    clear J0
    obtain ⟨i, hi, rfl, rfl, J⟩ := hrel
    by_cases hlt : i < 4
    · have ha := J.out.a.cell hlt
      have hb := J.out.b.cell hlt
      have ho := J.out.o.cell hlt
      have hf := J.out.o.fz i
      have hi4 : (i : Int) < 4 := by omega
      have hC := fun W => sub64_run (wd m i) (wd n i) _ (cy_le (df m n) n i) W
      rw [(df_sub m n i hn hlt).1, (df_sub m n i hn hlt).2] at hC
      generalize hd : df m n = D at *
      clear hd
      go_upto_region 6 with fail
      go_region_with (simp only [hC])
      all_goals (go_wp2; exact ⟨⟨i + 1, by omega, rfl, by go_num, hide ((J.out.drew.set i _).congr (fun k _ => wf_step D i k))⟩, by simp [intOf]; omega⟩)
    · have hke : i = 4 := by omega
      subst hke
      have H2 := (J.out.o.congr (wf_four (df m n))).heap
      have hE : (((cy (df m n) n 4 : Nat) : Int) != 0) = decide (m < n) := by
        rw [df_end m n hm hn]
        by_cases h : m < n <;> simp [h]
      generalize cy (df m n) n 4 = c at *
      go_wp2_with (first | refine wpList_loadA AW rfl _ rfl _ rfl (wn (df m n)) (wn_size _) 24 H2 ?_ | refine wpList_storeA AW rfl _ _ rfl _ (wn (df m n)) (wn_size _) (wn_one _) rfl rfl (wn 0) (wn_size 0) 24 J.out.r ?_)
      exact bodyPost_ret (v := .tuple #[.agg (wn (df m n)), .bool (decide (m < n))]) (resA2 AW Try.results61 _ _ (w.heap.size + 1 + 1) 24 (wn (df m n)) (wn_size _) rfl (setRow_heap _ _ _ _ _ _ J.out.r) _ (by rfl)) rfl ⟨rfl, below_setRow J.out.bel (by omega) _⟩
theorem from_any (x : Nat) (hx : x < 18446744073709551616) (w : World) : Calls Try.prog 14 #[.int .u64 (x : Int)] w fun e w' => e = .returned (.agg (wn x)) ∧ Below w.heap.size w w' := by
  have HB := hide fun W => run_buildW x hx W
  go_enter Try.func14, Try.ntmps14
  go_wp2_with (first | refine wpList_allocA AW rfl rfl ?_ | refine wpList_build1 rfl _ rfl _ (wn x) HB.out rfl ?_ | refine wpList_store_newA AW rfl _ _ rfl _ rfl (wn x) (wn_size _) (wn_one _) rfl rfl ?_)
  exact bodyPost_ret (v := .agg (wn x)) (resA AW Try.results14 _ _ w.heap.size 24 (wn x) (wn_size _) rfl (heap_alloc_last _ _)) rfl ⟨rfl, (Below.refl _ _).alloc (Nat.le_refl _) _⟩
theorem zero_any (m : Nat) (hm : m < M) (w : World) : Calls Try.prog 38 #[.agg (wn m)] w fun e w' => e = .returned (.bool (decide (m = 0))) ∧ Below w.heap.size w w' := by
  have HE := hide fun W => eqW m 0 hm M_pos W
  have H1 := hide (heap_alloc_last w (.cells (wn m) 24))
  generalize decide (m = 0) = v at *
  go_enter Try.func38, Try.ntmps38
  go_wp2_with (first | refine wpList_boxA rfl _ rfl (wn m) rfl ?_ | refine wpList_loadA AW rfl _ rfl _ rfl (wn m) (wn_size _) 24 H1.out ?_ | refine wpList_buildA AW rfl rfl ?_ | refine wpList_eql 24 _ _ _ rfl (wn m) (wn 0) rfl rfl rfl eqgW v HE.out ?_)
  go_ret
  exact ⟨rfl, (Below.refl _ _).alloc (Nat.le_refl _) _⟩
/-- How two numbers stand. -/
def cmpZ (m n : Nat) : Int := if m < n then -1 else if m = n then 0 else 1
theorem compare_any (m n : Nat) (hm : m < M) (hn : n < M) (w : World) : Calls Try.prog 46 #[.agg (wn m), .agg (wn n)] w fun e w' => e = .returned (.int .i64 (cmpZ m n)) ∧ Below w.heap.size w w' := by
  have HE := hide fun W => eqW m n hm hn W
  obtain ⟨e1, e2⟩ := blk2x w (.cells (wn m) 24) (.cells (wn n) 24)
  have H1 := hide e1
  have H2 := hide e2
  have BB := hide (below2x w (.cells (wn m) 24) (.cells (wn n) 24))
  have HS := hide fun W => wsub_any m n hm hn W
  clear e1 e2
  by_cases h0 : m = n
  · have hv : decide (m = n) = true := by simp [h0]
    rw [hv] at HE
    have hz : cmpZ m n = 0 := by simp [cmpZ, h0]
    rw [hz]
    clear h0 hv hz
    go_enter Try.func46, Try.ntmps46
    go_wp2_with (first | refine wpList_boxA rfl _ rfl (wn m) rfl ?_ | refine wpList_boxA rfl _ rfl (wn n) rfl ?_ | refine wpList_loadA AW rfl _ rfl _ rfl (wn m) (wn_size _) 24 H1.out ?_ | refine wpList_loadA AW rfl _ rfl _ rfl (wn n) (wn_size _) 24 H2.out ?_ | refine wpList_eql 24 _ _ _ rfl (wn m) (wn n) rfl rfl rfl eqgW true HE.out ?_)
    go_ret
    exact ⟨rfl, BB.out⟩
  · have hv : decide (m = n) = false := by simp [h0]
    rw [hv] at HE
    by_cases hlt : m < n
    · have hz : cmpZ m n = -1 := by simp [cmpZ, hlt]
      have hd : decide (m < n) = true := by simp [hlt]
      rw [hd] at HS
      rw [hz]
      generalize df m n = D at *
      clear h0 hv hlt hd hz
      go_enter Try.func46, Try.ntmps46
      go_wp2_with (first | refine wpList_boxA rfl _ rfl (wn m) rfl ?_ | refine wpList_boxA rfl _ rfl (wn n) rfl ?_ | refine wpList_loadA AW rfl _ rfl _ rfl (wn m) (wn_size _) 24 H1.out ?_ | refine wpList_loadA AW rfl _ rfl _ rfl (wn n) (wn_size _) 24 H2.out ?_ | refine wpList_eql 24 _ _ _ rfl (wn m) (wn n) rfl rfl rfl eqgW false HE.out ?_ | (go_at_call 61; refine (HS.out _).mono ?_; rintro e w1 ⟨rfl, b1⟩; have B1 := hide (below_next BB.out b1)) | refine wpList_allocA AW rfl rfl ?_ | refine wpList_store_newA AW rfl _ _ rfl _ rfl (wn D) (wn_size _) (wn_one _) rfl rfl ?_)
      go_ret
      exact ⟨rfl, below_next B1.out ((Below.refl _ _).alloc (Nat.le_refl _) _)⟩
    · have hz : cmpZ m n = 1 := by simp [cmpZ, hlt, h0]
      have hd : decide (m < n) = false := by simp [hlt]
      rw [hd] at HS
      rw [hz]
      generalize df m n = D at *
      clear h0 hv hlt hd hz
      go_enter Try.func46, Try.ntmps46
      go_wp2_with (first | refine wpList_boxA rfl _ rfl (wn m) rfl ?_ | refine wpList_boxA rfl _ rfl (wn n) rfl ?_ | refine wpList_loadA AW rfl _ rfl _ rfl (wn m) (wn_size _) 24 H1.out ?_ | refine wpList_loadA AW rfl _ rfl _ rfl (wn n) (wn_size _) 24 H2.out ?_ | refine wpList_eql 24 _ _ _ rfl (wn m) (wn n) rfl rfl rfl eqgW false HE.out ?_ | (go_at_call 61; refine (HS.out _).mono ?_; rintro e w1 ⟨rfl, b1⟩; have B1 := hide (below_next BB.out b1)) | refine wpList_allocA AW rfl rfl ?_ | refine wpList_store_newA AW rfl _ _ rfl _ rfl (wn D) (wn_size _) (wn_one _) rfl rfl ?_)
      go_ret
      exact ⟨rfl, below_next B1.out ((Below.refl _ _).alloc (Nat.le_refl _) _)⟩
end
end Go.Proofs.Ytmfpnlnhebjelaa
