/- The contracts of target.Meets and the document's Meets. -/
import Derived.Test.YtjbiiiblnkpddaaTh
import Derived.Test.YtjbiiiblnkpddaaTd
import Derived.Test.YtjbiiiblnkpddaaZu
namespace Go.Proofs.Ytjbiiiblnkpddaa
open Go.RowKit
open Go.Deep
theorem hv_eq (l : List UInt8) : hv l = vs 256 (by8 l) 32 := by unfold hv; rfl
/-- Whether an id meets bits. -/
def mt (l : List UInt8) (b : Nat) : Bool := okB b && decide (hv l ≤ tgt b)
theorem cmp_leB (a b : Nat) : (cmpZ a b ≤ 0) = (a ≤ b) := by
  apply propext
  unfold cmpZ
  split
  · simp; omega
  · split <;> simp <;> omega
section
set_option maxRecDepth 10000
set_option maxHeartbeats 2000000
theorem meets_any (l : List UInt8) (hl : l.length = 32) (b : Nat) (hb : b < 4294967296) (w : World) : Calls Try.prog 25 #[.agg (hc l), .int .u32 (b : Int)] w fun e w' => e = .returned (.bool (mt l b)) ∧ Below w.heap.size w w' := by
  have HE := hide fun W => expand_any b hb W
  have HO : Hid (∀ W, Calls Try.prog 37 #[.agg (hc l)] W fun e w' => e = .returned (.agg (wn (hv l))) ∧ Below W.heap.size W w') := fun W => by
    have := ofW_any l hl W
    rw [← hv_eq] at this
    exact this
  have hX : xt b < M := Nat.lt_of_le_of_lt (xt_le b) Lm_M
  have HC := hide fun W => compare_any _ _ (hv_lt l) hX W
  have J0 := hide (Rc.start1 w 50 (hc l))
  have hcs := hide (show (hc l).size = 32 by rw [hc_size]; exact hl)
  have hm : mt l b = (okB b && decide (cmpZ (hv l) (xt b) ≤ 0)) := by
    unfold mt xt
    cases okB b
    · rw [Bool.false_and, Bool.false_and]
    · simp only [cmp_leB, if_true]
  rw [hm]
  generalize hv l = V at *
  generalize xt b = X at *
  generalize cmpZ V X = z at *
  clear hm hX hl hb
  generalize okB b = ok at *
  cases ok
  · try simp only [Bool.false_eq_true, if_false] at HE
    go_enter Try.func25, Try.ntmps25
    go_upto_region 1 with (refine wpList_boxA rfl _ rfl (hc l) rfl ?_)
    generalize w.alloc (.cells (hc l) 50) = W0 at *
    go_upto_region 2 with (first | (go_at_call 7; refine (HE.out _).mono ?_; rintro e w1 ⟨rfl, be⟩; have J1 := hide ((J0.out.next be).new 25 (wn X)); clear be) | refine wpList_allocA AW rfl rfl ?_ | refine wpList_store_newA AW rfl _ _ rfl _ rfl (wn X) (wn_size _) (wn_one _) rfl rfl ?_)
    generalize w1.alloc (.cells (wn X) 25) = W1 at *
    generalize w1.heap.size = g5 at *
    obtain ⟨I, hne, F, i0, h0, hJ, hcl⟩ := J1.out.cls
    refine wp_region_class_lit (by kernel_rfl) (by kernel_rfl) i0 h0 ?_
    repeat (go_big_quiet_step (fail))
    refine wpQuiet_nil ?_
    rintro _ ⟨iq, rfl⟩
    go_wp2
    go_ret
    exact ⟨rfl, (hJ.out iq).bel⟩
  · try simp only [if_true] at HE
    have hzd : ∃ v, decide (z ≤ 0) = v := ⟨_, rfl⟩
    obtain ⟨v, hv⟩ := hzd
    rw [hv]
    go_enter Try.func25, Try.ntmps25
    go_upto_region 1 with (refine wpList_boxA rfl _ rfl (hc l) rfl ?_)
    generalize w.alloc (.cells (hc l) 50) = W0 at *
    go_upto_region 2 with (first | (go_at_call 7; refine (HE.out _).mono ?_; rintro e w1 ⟨rfl, be⟩; have J1 := hide ((J0.out.next be).new 25 (wn X)); clear be) | refine wpList_allocA AW rfl rfl ?_ | refine wpList_store_newA AW rfl _ _ rfl _ rfl (wn X) (wn_size _) (wn_one _) rfl rfl ?_)
    generalize w1.alloc (.cells (wn X) 25) = W1 at *
    generalize w1.heap.size = g5 at *
    obtain ⟨I, hne, F, i0, h0, hJ, hcl⟩ := J1.out.cls
    refine wp_region_class_lit (by kernel_rfl) (by kernel_rfl) i0 h0 ?_
    repeat (first | ((go_big_quiet_want; first | refine quiet_loadA AW _ (by rfl) g5 (by rfl) (wn X) (wn_size _) 25 (Rc.of hJ (by simp)) ?_ | refine quiet_loadA A25 _ (by rfl) w.heap.size (by rfl) (hc l) hcs.out 50 (Rc.of hJ (by simp)) ?_); go_big_quiet_on; simp only [Act.put, List.setIfInBounds_toArray, List.set_cons_succ, List.set_cons_zero]) | go_big_quiet_step (first | (go_at_call 37; exact class_of hcl.out (HO.out _)) | (go_at_call 31; exact class_of hcl.out (HC.out _))))
    refine wpQuiet_nil ?_
    rintro _ ⟨iq, rfl⟩
    go_wp2
    go_ret
    exact ⟨rfl, (hJ.out iq).bel⟩
end
end Go.Proofs.Ytjbiiiblnkpddaa
