/- The contract of wide.Div, in full. -/
import Derived.Test.YtmfpnlnhebjelaaZf
import Derived.Test.YtmfpnlnhebjelaaWl
namespace Go.Proofs.Ytmfpnlnhebjelaa
open Go.RowKit
open Go.Deep
attribute [local go_sem ↓] ldW_eq svW_eq
section
set_option maxRecDepth 10000
set_option maxHeartbeats 2000000
theorem div_zero (m : Nat) (w : World) : Calls Try.prog 37 #[.agg (wn m), .agg (wn 0)] w fun e w' => e = .returned (.tuple #[.agg (wn 0), .agg (wn 0), .int .i64 40]) ∧ Below w.heap.size w w' := by
  have J0 := hide (Ad.start w 24 m 0)
  have HZ := hide fun W => zero_any 0 M_pos W
  rw [show decide (0 = 0) = true by decide] at HZ
  go_enter Try.func37, Try.ntmps37
  go_upto_region 1 with (first | refine wpList_boxA rfl _ rfl (wn m) rfl ?_ | refine wpList_boxA rfl _ rfl (wn 0) rfl ?_ | refine wpList_allocA AW rfl rfl ?_)
  generalize (((w.alloc (.cells (wn m) 24)).alloc (.cells (wn 0) 24)).alloc (.cells (wn 0) 24)).alloc (.cells (wn 0) 24) = W0 at *
  have b0 := hide J0.out.b.heap
  go_wp2_with (first | refine wpList_loadA AW rfl _ rfl _ rfl (wn 0) (wn_size _) 24 b0.out ?_ | (go_at_call 38; refine (HZ.out _).mono ?_; rintro e w1 ⟨rfl, be⟩; have J1 := hide (J0.out.next be); have r1 := hide J1.out.r; clear be) | refine wpList_buildA AW rfl rfl ?_ | refine wpList_storeA AW rfl _ _ rfl _ (wn 0) (wn_size _) (wn_one _) rfl rfl (wn 0) (wn_size 0) 24 r1.out ?_ | refine wpList_storeA AW rfl _ _ rfl _ (wn 0) (wn_size _) (wn_one _) rfl rfl (wn 0) (wn_size 0) 24 ((setRow_other _ _ _ _ (by omega)).trans J1.out.o.heap) ?_)
  exact bodyPost_ret (v := .tuple #[.agg (wn 0), .agg (wn 0), .int .i64 40]) (resAA3 AW Try.results37 _ _ (w.heap.size + 1 + 1) (w.heap.size + 1 + 1 + 1) 24 (wn 0) (wn 0) (wn_size _) (wn_size _) rfl (two_rows J1.out _ _).1 rfl (two_rows J1.out _ _).2.1 _ (by rfl)) rfl ⟨rfl, (two_rows J1.out _ _).2.2⟩
theorem div_long (m n : Nat) (hm : m < M) (hn : n < M) (hl : ¬ n < 18446744073709551616) (w : World) : Calls Try.prog 37 #[.agg (wn m), .agg (wn n)] w fun e w' => e = .returned (.tuple #[.agg (wn (m / n)), .agg (wn (m % n)), .int .i64 0]) ∧ Below w.heap.size w w' := by
  have J0 := hide (Ad.start w 24 m n)
  have HZ := hide fun W => zero_any n hn W
  rw [show decide (n = 0) = false by simp; omega] at HZ
  have HL := hide fun W => low_no n hn hl W
  have HD := hide fun W => divLong_any m n hm (by omega) hn W
  clear hm hn hl
  generalize m / n = q at *
  generalize m % n = r at *
  go_enter Try.func37, Try.ntmps37
  go_upto_region 1 with (first | refine wpList_boxA rfl _ rfl (wn m) rfl ?_ | refine wpList_boxA rfl _ rfl (wn n) rfl ?_ | refine wpList_allocA AW rfl rfl ?_)
  generalize (((w.alloc (.cells (wn m) 24)).alloc (.cells (wn n) 24)).alloc (.cells (wn 0) 24)).alloc (.cells (wn 0) 24) = W0 at *
  have b0 := hide J0.out.b.heap
  go_upto_region 7 with (first | refine wpList_loadA AW rfl _ rfl _ rfl (wn n) (wn_size _) 24 b0.out ?_ | refine wpList_loadA AW rfl _ rfl _ rfl (wn n) (wn_size _) 24 b1.out ?_ | (go_at_call 38; refine (HZ.out _).mono ?_; rintro e w1 ⟨rfl, be⟩; have J1 := hide (J0.out.next be); have b1 := hide J1.out.b.heap; clear be) | (go_at_call 15; refine (HL.out _).mono ?_; rintro e w2 ⟨rfl, be⟩; have J2 := hide (J1.out.next be); have a2 := hide J2.out.a.heap; have b2 := hide J2.out.b.heap; clear be))
  clear J0 b0 J1 b1 HZ HL
  go_upto_region 8 with (first | refine wpList_loadA AW rfl _ rfl _ rfl (wn m) (wn_size _) 24 a2.out ?_ | refine wpList_loadA AW rfl _ rfl _ rfl (wn n) (wn_size _) 24 b2.out ?_ | (go_at_call 52; refine (HD.out _).mono ?_; rintro e w3 ⟨rfl, be⟩; have J3 := hide (J2.out.next be); clear be) | refine wpList_allocA AW rfl rfl ?_ | refine wpList_storeA AW rfl _ _ rfl _ (wn q) (wn_size _) (wn_one _) rfl rfl (wn 0) (wn_size _) 24 (blk2x w3 (.cells (wn 0) 24) (.cells (wn 0) 24)).1 ?_ | refine wpList_storeA AW rfl _ _ rfl _ (wn r) (wn_size _) (wn_one _) rfl rfl (wn 0) (wn_size _) 24 (blk2s w3 (.cells (wn 0) 24) (.cells (wn 0) 24) (wn q)) ?_)
  obtain ⟨r3, r4, rb⟩ := blk2w w3 24 (wn 0) (wn q) (wn r)
  have H3 := hide r3
  have H4 := hide r4
  have J4 := hide (J3.out.next rb)
  have hlt := J3.out.ne
  clear r3 r4 rb J2 a2 b2 HD J3
  simp only [Act.put, List.setIfInBounds_toArray, List.set_cons_succ, List.set_cons_zero, hsz]
  generalize (((w3.alloc (.cells (wn 0) 24)).alloc (.cells (wn 0) 24)).setRow w3.heap.size (wn q)).setRow (w3.heap.size + 1) (wn r) = W4 at *
  have l1 := ldW_row (W := W4.drew) H3.out
  have l2 := ldW_row (W := W4.drew) H4.out
  have s1 := svW_row (w := W4.drew) J4.out.r q
  have l3 := ldW_row (W := W4.drew.setRow (w.heap.size + 1 + 1) (wn q)) ((setRow_other _ _ _ _ (by omega)).trans H4.out)
  have s2 := svW_row (w := W4.drew.setRow (w.heap.size + 1 + 1) (wn q)) ((setRow_other _ _ _ _ (by omega)).trans J4.out.o.heap) r
  clear hlt
  go_region
  go_wp2
  exact bodyPost_ret (v := .tuple #[.agg (wn q), .agg (wn r), .int .i64 0]) (resAA3 AW Try.results37 _ _ (w.heap.size + 1 + 1) (w.heap.size + 1 + 1 + 1) 24 (wn q) (wn r) (wn_size _) (wn_size _) rfl (two_rows J4.out.drew _ _).1 rfl (two_rows J4.out.drew _ _).2.1 _ (by rfl)) rfl ⟨rfl, (two_rows J4.out.drew _ _).2.2⟩
end
theorem div_any (m n : Nat) (hm : m < M) (h0 : 0 < n) (hn : n < M) (w : World) : Calls Try.prog 37 #[.agg (wn m), .agg (wn n)] w fun e w' => e = .returned (.tuple #[.agg (wn (m / n)), .agg (wn (m % n)), .int .i64 0]) ∧ Below w.heap.size w w' := by
  by_cases h : n < 18446744073709551616
  · exact div_word m n hm h0 h w
  · exact div_long m n hm hn h w
end Go.Proofs.Ytmfpnlnhebjelaa
