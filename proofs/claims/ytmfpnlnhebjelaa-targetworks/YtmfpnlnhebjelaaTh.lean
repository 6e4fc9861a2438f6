/- The contracts of the document's Limit and Expand, Meets. -/
import Derived.Test.YtmfpnlnhebjelaaTg
import Derived.Test.YtmfpnlnhebjelaaZt
namespace Go.Proofs.Ytmfpnlnhebjelaa
open Go.RowKit
open Go.Deep
theorem Lm_MB : Lm < MB := by decide +kernel
section
set_option maxRecDepth 10000
set_option maxHeartbeats 2000000
theorem limitN_any (w : World) : Calls Try.prog 27 #[] w fun e w' => e = .returned (.agg (bn Lm)) ∧ Below w.heap.size w w' := by
  have HS : Hid (∀ W, Calls Try.prog 47 #[.int .u32 545259519] W fun e w' => e = .returned (.tuple #[.agg (bn Lm), .bool true]) ∧ Below W.heap.size W w') := fun W => by
    have := raw_any 545259519 (by decide) W
    rw [Lm_eq, if_pos Lm_MB, show decide (Lm < MB) = true by simp [Lm_MB]] at this
    exact this
  have J0 := hide (Rc.start1 w 46 (bn 0))
  generalize Lm = L at *
  go_enter Try.func27, Try.ntmps27
  go_upto_region 1 with (refine wpList_allocA AN rfl rfl ?_)
  generalize w.alloc (.cells (bn 0) 46) = W0 at *
  go_upto_region 2 with (first | (go_at_call 47; refine (HS.out _).mono ?_; rintro e w1 ⟨rfl, b1⟩; have J1 := hide ((J0.out.next b1).new 46 (bn L)); clear b1) | refine wpList_allocA AN rfl rfl ?_ | refine wpList_store_newA AN rfl _ _ rfl _ rfl (bn L) (bn_size _) (bn_one _) rfl rfl ?_)
  generalize w1.alloc (.cells (bn L) 46) = W1 at *
  generalize w1.heap.size = g1 at *
  have r1 := hide (J1.out.at (g := g1) (t := 46) (c := bn L) (by simp))
  have r0 := hide (J1.out.at (g := w.heap.size) (t := 46) (c := bn 0) (by simp))
  go_wp2_with (first | refine wpList_loadA AN rfl _ rfl g1 rfl (bn L) (bn_size _) 46 r1.out ?_ | refine wpList_storeA AN rfl _ _ rfl _ (bn L) (bn_size _) (bn_one _) rfl rfl (bn 0) (bn_size 0) 46 r0.out ?_)
  exact bodyPost_ret (v := .agg (bn L)) (resA AN Try.results27 _ _ w.heap.size 46 (bn L) (bn_size _) rfl (setRow_heap _ _ _ _ _ _ r0.out)) rfl ⟨rfl, below_setRow J1.out.bel (Nat.le_refl _) _⟩
/-- Expand, by what its four tests say. -/
theorem expandN_core (b : Nat) (hb : b < 4294967296) (A : Nat) (hA : A < MB) (ok sg zb gt : Bool) (hAe : (if tgt b < MB then tgt b else 0) = A) (hok : decide (tgt b < MB) = ok) (hsg : decide (b / 8388608 % 2 = 1) = sg) (hzb : decide (A = 0) = zb) (hgt : decide (Lm < A) = gt) (w : World) :
    Calls Try.prog 19 #[.int .u32 (b : Int)] w fun e w' => e = .returned (if !ok || sg || zb || gt then .tuple #[.agg (bn 0), .bool false] else .tuple #[.agg (bn A), .bool true]) ∧ Below w.heap.size w w' := by
  have HS := hide fun W => raw_any b hb W
  rw [hok, hAe] at HS
  have hand := and_bit b hb
  rw [hsg] at hand
  have HZ := hide fun W => zeroN_any _ hA W
  rw [hzb] at HZ
  have HL := hide fun W => limitN_any W
  have HC := hide fun W => less_any _ _ Lm_MB hA W
  rw [hgt] at HC
  have J0 := hide (Rc.start1 w 46 (bn 0))
  generalize Lm = L at *
  clear hok hsg hzb hA hb hAe hgt
  go_enter Try.func19, Try.ntmps19
  go_upto_region 1 with (refine wpList_allocA AN rfl rfl ?_)
  generalize w.alloc (.cells (bn 0) 46) = W0 at *
  go_upto_region 2 with (first | (go_at_call 47; refine (HS.out _).mono ?_; rintro e w1 ⟨rfl, be⟩; have J1 := hide ((J0.out.next be).new 46 (bn A)); clear be) | refine wpList_allocA AN rfl rfl ?_ | refine wpList_store_newA AN rfl _ _ rfl _ rfl (bn A) (bn_size _) (bn_one _) rfl rfl ?_)
  generalize w1.alloc (.cells (bn A) 46) = W1 at *
  generalize w1.heap.size = g4 at *
  clear J0 HS
  have hc : ok = false ∨ (ok = true ∧ sg = true) ∨ (ok = true ∧ sg = false ∧ zb = true) ∨ (ok = true ∧ sg = false ∧ zb = false ∧ gt = true) ∨ (ok = true ∧ sg = false ∧ zb = false ∧ gt = false) := by
    cases ok <;> cases sg <;> cases zb <;> cases gt <;> simp
  obtain ⟨I, hne, F, i0, h0, hJ, hcl⟩ := J1.out.cls
  rcases hc with rfl | ⟨rfl, rfl⟩ | ⟨rfl, rfl, rfl⟩ | ⟨rfl, rfl, rfl, rfl⟩ | ⟨rfl, rfl, rfl, rfl⟩
  all_goals
    refine wp_region_class_lit (by kernel_rfl) (by kernel_rfl) i0 h0 ?_
    repeat (first | ((go_big_quiet_want; refine quiet_loadA AN _ (by rfl) g4 (by rfl) (bn A) (bn_size _) 46 (Rc.of hJ (by simp)) ?_); go_big_quiet_on; simp only [Act.put, List.setIfInBounds_toArray, List.set_cons_succ, List.set_cons_zero]) | go_big_quiet_step (first | (go_at_call 28; exact class_of hcl.out (HZ.out _)) | (go_at_call 27; exact class_of hcl.out (HL.out _)) | (go_at_call 29; exact class_of hcl.out (HC.out _))))
    refine wpQuiet_nil ?_
    rintro _ ⟨iq, rfl⟩
    have J2 := hide (hJ.out iq)
    clear hJ hcl h0 HZ HL HC
    generalize F iq = W2 at *
    have r2 := hide (J2.out.at (g := w.heap.size) (t := 46) (c := bn 0) (by simp))
    have r4 := hide (J2.out.at (g := g4) (t := 46) (c := bn A) (by simp))
  iterate 4
    · go_wp2_with (first | refine wpList_buildA AN rfl rfl ?_ | refine wpList_storeA AN rfl _ _ rfl _ (bn 0) (bn_size _) (bn_one _) rfl rfl (bn 0) (bn_size 0) 46 r2.out ?_)
      exact bodyPost_ret (v := .tuple #[.agg (bn 0), .bool false]) (resA2 AN Try.results19 _ _ w.heap.size 46 (bn 0) (bn_size _) rfl (setRow_heap _ _ _ _ _ _ r2.out) _ (by rfl)) rfl ⟨rfl, below_setRow J2.out.bel (Nat.le_refl _) _⟩
  · go_wp2_with (first | refine wpList_loadA AN rfl _ rfl g4 rfl (bn A) (bn_size _) 46 r4.out ?_ | refine wpList_storeA AN rfl _ _ rfl _ (bn A) (bn_size _) (bn_one _) rfl rfl (bn 0) (bn_size 0) 46 r2.out ?_)
    exact bodyPost_ret (v := .tuple #[.agg (bn A), .bool true]) (resA2 AN Try.results19 _ _ w.heap.size 46 (bn A) (bn_size _) rfl (setRow_heap _ _ _ _ _ _ r2.out) _ (by rfl)) rfl ⟨rfl, below_setRow J2.out.bel (Nat.le_refl _) _⟩
end
/-- What Expand tells: the target where it may be, else 0. -/
def xt (b : Nat) : Nat := if okB b then tgt b else 0
theorem okB_iff (b : Nat) : okB b = true ↔ b / 8388608 % 2 = 0 ∧ 0 < tgt b ∧ tgt b ≤ Lm := by
  unfold okB
  simp only [Bool.and_eq_true, decide_eq_true_eq]
  omega
theorem xt_le (b : Nat) : xt b ≤ Lm := by
  unfold xt
  split
  · rename_i h
    exact ((okB_iff b).1 h).2.2
  · exact Nat.zero_le _
theorem expandN_any (b : Nat) (hb : b < 4294967296) (w : World) : Calls Try.prog 19 #[.int .u32 (b : Int)] w fun e w' => e = .returned (.tuple #[.agg (bn (xt b)), .bool (okB b)]) ∧ Below w.heap.size w w' := by
  have hL := Lm_MB
  have hA : (if tgt b < MB then tgt b else 0) < MB := by
    split
    · assumption
    · exact MB_pos
  have := expandN_core b hb _ hA _ _ _ _ rfl rfl rfl rfl rfl w
  unfold xt
  cases h : okB b
  · rw [if_pos] at this
    · exact this
    · have h2 : ¬ (b / 8388608 % 2 = 0 ∧ 0 < tgt b ∧ tgt b ≤ Lm) := fun h' => by rw [(okB_iff b).2 h'] at h; cases h
      simp only [Bool.or_eq_true, Bool.not_eq_true', decide_eq_false_iff_not, decide_eq_true_eq]
      by_cases h1 : tgt b < MB
      · rw [if_pos h1]
        omega
      · exact .inl (.inl (.inl h1))
  · have h2 := (okB_iff b).1 h
    rw [if_neg, if_pos (show tgt b < MB by omega)] at this
    · exact this
    · simp only [Bool.or_eq_true, Bool.not_eq_true', decide_eq_false_iff_not, decide_eq_true_eq]
      rw [if_pos (show tgt b < MB by omega)]
      omega
theorem expand_any (b : Nat) (hb : b < 4294967296) (w : World) : Calls Try.prog 18 #[.int .u32 (b : Int)] w fun e w' => e = .returned (.tuple #[.agg (wn (xt b)), .int .i64 (if okB b then 0 else 50)]) ∧ Below w.heap.size w w' := by
  unfold xt
  cases h : okB b
  · exact expand_no b hb h w
  · exact expand_yes b hb h w
end Go.Proofs.Ytmfpnlnhebjelaa
