/- The contract of the document's Meets; the law TargetMeets: its walk. -/
import Derived.Test.YtjbiiiblnkpddaaTi
namespace Go.Proofs.Ytjbiiiblnkpddaa
open Go.RowKit
open Go.Deep
section
set_option maxRecDepth 10000
set_option maxHeartbeats 2000000
theorem meetsN_any (l : List UInt8) (hl : l.length = 32) (b : Nat) (hb : b < 4294967296) (w : World) : Calls Try.prog 26 #[.agg (hc l), .int .u32 (b : Int)] w fun e w' => e = .returned (.bool (mt l b)) ∧ Below w.heap.size w w' := by
  have HE := hide fun W => expandN_any b hb W
  have HO := hide fun W => ofN_any l hl W
  have hX : xt b < MB := Nat.lt_of_le_of_lt (xt_le b) Lm_MB
  have HC := hide fun W => less_any _ _ hX (Nat.lt_trans (hv_lt l) M_MB) W
  have J0 := hide (Rc.start1 w 49 (hc l))
  have hcs := hide (show (hc l).size = 32 by rw [hc_size]; exact hl)
  have hm : mt l b = (okB b && !decide (xt b < hv l)) := by
    unfold mt xt
    cases okB b
    · rw [Bool.false_and, Bool.false_and]
    · rw [Bool.true_and, Bool.true_and, if_pos rfl]
      generalize hv l = V
      generalize tgt b = T
      rw [Bool.eq_iff_iff]
      simp
  rw [hm]
  generalize decide (xt b < hv l) = lt at *
  generalize hv l = V at *
  generalize xt b = X at *
  clear hm hX hl hb
  generalize okB b = ok at *
  cases ok
  · rw [Bool.false_and]
    go_enter Try.func26, Try.ntmps26
    go_upto_region 1 with (refine wpList_boxA rfl _ rfl (hc l) rfl ?_)
    generalize w.alloc (.cells (hc l) 49) = W0 at *
    go_upto_region 2 with (first | (go_at_call 8; refine (HE.out _).mono ?_; rintro e w1 ⟨rfl, be⟩; have J1 := hide ((J0.out.next be).new 30 (bn X)); clear be) | refine wpList_allocA AN rfl rfl ?_ | refine wpList_store_newA AN rfl _ _ rfl _ rfl (bn X) (bn_size _) (bn_one _) rfl rfl ?_)
    generalize w1.alloc (.cells (bn X) 30) = W1 at *
    generalize w1.heap.size = g5 at *
    obtain ⟨I, hne, F, i0, h0, hJ, hcl⟩ := J1.out.cls
    refine wp_region_class_lit (by kernel_rfl) (by kernel_rfl) i0 h0 ?_
    repeat (go_big_quiet_step (fail))
    refine wpQuiet_nil ?_
    rintro _ ⟨iq, rfl⟩
    go_wp2
    go_ret
    exact ⟨rfl, (hJ.out iq).bel⟩
  · rw [Bool.true_and]
    go_enter Try.func26, Try.ntmps26
    go_upto_region 1 with (refine wpList_boxA rfl _ rfl (hc l) rfl ?_)
    generalize w.alloc (.cells (hc l) 49) = W0 at *
    go_upto_region 2 with (first | (go_at_call 8; refine (HE.out _).mono ?_; rintro e w1 ⟨rfl, be⟩; have J1 := hide ((J0.out.next be).new 30 (bn X)); clear be) | refine wpList_allocA AN rfl rfl ?_ | refine wpList_store_newA AN rfl _ _ rfl _ rfl (bn X) (bn_size _) (bn_one _) rfl rfl ?_)
    generalize w1.alloc (.cells (bn X) 30) = W1 at *
    generalize w1.heap.size = g5 at *
    obtain ⟨I, hne, F, i0, h0, hJ, hcl⟩ := J1.out.cls
    refine wp_region_class_lit (by kernel_rfl) (by kernel_rfl) i0 h0 ?_
    repeat (first | ((go_big_quiet_want; first | refine quiet_loadA AN _ (by rfl) g5 (by rfl) (bn X) (bn_size _) 30 (Rc.of hJ (by simp)) ?_ | refine quiet_loadA A49 _ (by rfl) w.heap.size (by rfl) (hc l) hcs.out 49 (Rc.of hJ (by simp)) ?_); go_big_quiet_on; simp only [Act.put, List.setIfInBounds_toArray, List.set_cons_succ, List.set_cons_zero]) | go_big_quiet_step (first | (go_at_call 38; exact class_of hcl.out (HO.out _)) | (go_at_call 18; exact class_of hcl.out (HC.out _))))
    refine wpQuiet_nil ?_
    rintro _ ⟨iq, rfl⟩
    go_wp2
    go_ret
    exact ⟨rfl, (hJ.out iq).bel⟩
theorem targetMeets_walk (l : List UInt8) (hl : l.length = 32) (b : Nat) (hb : b < 4294967296) (w : World) : Calls Try.prog 5 #[.agg (hc l), .int .u32 (b : Int)] w fun e w' => e = .returned (.bool true) ∧ Below w.heap.size w w' := by
  have HAw := hide fun W => awake_any5 W
  have H1 := hide fun W => meets_any l hl b hb W
  have H2 := hide fun W => meetsN_any l hl b hb W
  have J0 := hide (Rc.start1 w 50 (hc l))
  have hcs := hide (show (hc l).size = 32 by rw [hc_size]; exact hl)
  generalize mt l b = v at *
  have hvv : (v == v) = true := by simp
  clear hl hb
  go_enter Try.func5, Try.ntmps5
  go_upto_region 1 with (refine wpList_boxA rfl _ rfl (hc l) rfl ?_)
  generalize w.alloc (.cells (hc l) 50) = W0 at *
  obtain ⟨I, hne, F, i0, h0, hJ, hcl⟩ := J0.out.cls
  refine wp_region_class_lit (by kernel_rfl) (by kernel_rfl) i0 h0 ?_
  repeat (first | ((go_big_quiet_want; refine quiet_loadA A25 _ (by rfl) w.heap.size (by rfl) (hc l) hcs.out 50 (Rc.of hJ (by simp)) ?_); go_big_quiet_on; simp only [Act.put, List.setIfInBounds_toArray, List.set_cons_succ, List.set_cons_zero]) | go_big_quiet_step (first | (go_at_call 11; exact class_of hcl.out (HAw.out _)) | (go_at_call 25; exact class_of hcl.out (H1.out _)) | (go_at_call 26; exact class_of hcl.out (H2.out _))))
  refine wpQuiet_nil ?_
  rintro _ ⟨iq, rfl⟩
  go_wp2
  go_ret
  exact ⟨rfl, (hJ.out iq).bel⟩
end
end Go.Proofs.Ytjbiiiblnkpddaa
