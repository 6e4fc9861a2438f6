/- The contracts of wide.withBit and the document's Not. -/
import Derived.Test.YtmfpnlnhebjelaaZa
import Derived.Test.YtmfpnlnhebjelaaWx
namespace Go.Proofs.Ytmfpnlnhebjelaa
open Go.RowKit
open Go.Deep
theorem Bd.drew {w W : World} {t : TypeId} {f : Nat → Nat} (j : Bd w W t f) : Bd w W.drew t f := ⟨j.a, j.r, j.bel.drew⟩
section
set_option maxRecDepth 10000
set_option maxHeartbeats 2000000
theorem withBit_any (m n : Nat) (hn : n < 256) (hb : m.testBit n = false) (w : World) : Calls Try.prog 67 #[.agg (wn m), .int .i64 (n : Int)] w fun e w' => e = .returned (.agg (wn (m + 2 ^ n))) ∧ Below w.heap.size w w' := by
  have J0 := hide (Bd.start w 24 m)
  obtain ⟨p1, p2, p3⟩ := wd_put m n hb
  have hor := u64_or_nat (wd m (n / 64)) (2 ^ (n % 64)) (wd_lt _ _) (Nat.pow_lt_pow_right (a := 2) (by decide) (show n % 64 < 64 by omega))
  rw [p1] at hor
  have hshl := one_shl (n % 64) (by omega)
  have d1 : (n : Int) / 64 = ((n / 64 : Nat) : Int) := by omega
  have d2 : (n : Int) % 64 = ((n % 64 : Nat) : Int) := by omega
  have hd0 : (0 : Int) ≤ n := by omega
  have hq4 : ((n / 64 : Nat) : Int) < 4 := by omega
  have hq0 : (0 : Int) ≤ ((n / 64 : Nat) : Int) := by omega
  have hr6 : ((n % 64 : Nat) : Int) ≤ 64 := by omega
  have hr0 : (0 : Int) ≤ ((n % 64 : Nat) : Int) := by omega
  have HP : Hid (∀ j, (if j = n / 64 then wd m (n / 64) + 2 ^ (n % 64) else wd m j) = wd (m + 2 ^ n) j) := fun j => (p3 j).symm
  have Q4 := hide (show n / 64 < 4 by omega)
  clear p1 p2 p3 hb hn
  generalize hq : n / 64 = q at *
  generalize hr : n % 64 = r at *
  clear hq hr
  obtain ⟨s, hs⟩ : ∃ s, s = wd m q + 2 ^ r := ⟨_, rfl⟩
  rw [← hs] at hor HP
  obtain ⟨p, hpw⟩ : ∃ p, p = 2 ^ r := ⟨_, rfl⟩
  rw [← hpw] at hor hshl
  clear hs hpw
  generalize m + 2 ^ n = U at *
  go_enter Try.func67, Try.ntmps67
  go_upto_region 1 with (first | refine wpList_boxA rfl _ rfl (wn m) rfl ?_ | refine wpList_allocA AW rfl rfl ?_)
  generalize (w.alloc (.cells (wn m) 24)).alloc (.cells (wn 0) 24) = W0 at *
  have cq := J0.out.a.cell Q4.out
  have fq := J0.out.a.fz q
  simp only [Act.put, List.setIfInBounds_toArray, List.set_cons_succ, List.set_cons_zero]
  rw [show (w.alloc (.cells (wn m) 24)).heap.size = w.heap.size + 1 by simp]
  go_region
  have J1 := hide ((J0.out.set q s).congr (fun j _ => HP.out j)).drew
  generalize (W0.setCell ⟨w.heap.size, q, none⟩ (.int .u64 (s : Int))).drew = W1 at *
  have H2 := hide J1.out.a.heap
  clear J0 cq fq
  go_wp2_with (first | refine wpList_loadA AW rfl _ rfl _ rfl (wn U) (wn_size _) 24 H2.out ?_ | refine wpList_storeA AW rfl _ _ rfl _ (wn U) (wn_size _) (wn_one _) rfl rfl (wn 0) (wn_size 0) 24 J1.out.r ?_)
  exact bodyPost_ret (v := .agg (wn U)) (resA AW Try.results67 _ _ (w.heap.size + 1) 24 (wn U) (wn_size _) rfl (setRow_heap _ _ _ _ _ _ J1.out.r)) rfl ⟨rfl, below_setRow J1.out.bel (by omega) _⟩
/-- The first i words turned over, the others as they were. -/
def nwf (m i j : Nat) : Nat := if j < i then wd (M - 1 - m) j else wd m j
theorem nwf_step (m i j : Nat) : (if j = i then wd (M - 1 - m) i else nwf m i j) = nwf m (i + 1) j := by
  unfold nwf
  by_cases e : j = i
  · rw [if_pos e, if_pos (by omega), e]
  · rw [if_neg e]
    by_cases e2 : j < i
    · rw [if_pos e2, if_pos (by omega)]
    · rw [if_neg e2, if_neg (by omega)]
theorem nwf_at (m i : Nat) : nwf m i i = wd m i := by rw [nwf, if_neg (by omega)]
theorem nwf_four (m j : Nat) (h : j < 4) : nwf m 4 j = wd (M - 1 - m) j := by rw [nwf, if_pos h]
theorem nwf_zero (m j : Nat) (_ : j < 4) : wd m j = nwf m 0 j := by rw [nwf, if_neg (by omega)]
theorem rnot_any (m : Nat) (hm : m < M) (w : World) : Calls Try.prog 69 #[.agg (wn m)] w fun e w' => e = .returned (.agg (wn (M - 1 - m))) ∧ Below w.heap.size w w' := by
  have J0 := hide ((Bd.start w 23 m).congr (nwf_zero m))
  have HW : Hid (∀ i, i < 4 → wd (M - 1 - m) i = 18446744073709551615 - wd m i) := fun i hi => not_word m i hm hi
  clear hm
  go_enter Try.func69, Try.ntmps69
  go_wp2_with (first | refine wpList_boxA rfl _ rfl (wn m) rfl ?_ | refine wpList_allocA AR rfl rfl ?_)
  generalize (w.alloc (.cells (wn m) 23)).alloc (.cells (wn 0) 23) = W0 at *
  go_loopw [3] (fun d wr => ∃ i : Nat, i ≤ 4 ∧ d = .int .i64 i ∧ Hid (Bd w wr 23 (nwf m i))) (fun d _ => (4 - intOf d).toNat)
  case atStart => exact ⟨0, by omega, rfl, J0⟩
  case round =>
    clear J0
    obtain ⟨i, hi, rfl, J⟩ := hrel
    by_cases hlt : i < 4
    · have hi4 : (i : Int) < 4 := by omega
      have i0 : (0 : Int) ≤ i := by omega
      have ca := J.out.a.cell hlt
      rw [nwf_at] at ca
      have fa := J.out.a.fz i
      have hb := wd_lt m i
      have hw : IntKind.u64.wrap (18446744073709551615 - ((wd m i : Nat) : Int)) = ((wd (M - 1 - m) i : Nat) : Int) := by
        rw [wrapu _ (by omega) (by omega), HW.out i hlt]
        omega
      have HR : Hid (∀ j, (if j = i then wd (M - 1 - m) i else nwf m i j) = nwf m (i + 1) j) := fun j => nwf_step m i j
      have hiw : IntKind.i64.wrap ((i : Int) + 1) = i + 1 := wrapI _ (by omega) (by omega)
      have LL := hide hlt
      clear hb hlt hi
      generalize wd (M - 1 - m) i = s at *
      generalize hX : ((wd m i : Nat) : Int) = X at *
      clear hX
      go_wp2
      have L4 := LL.out
      exact ⟨⟨i + 1, by omega, by go_num, hide ((J.out.set i s).congr (fun j _ => HR.out j))⟩, by simp [intOf]; omega⟩
    · have hke : i = 4 := by omega
      subst hke
      have H2 := (J.out.a.congr (nwf_four m)).heap
      go_wp2_with (first | refine wpList_loadA AR rfl _ rfl _ rfl (wn (M - 1 - m)) (wn_size _) 23 H2 ?_ | refine wpList_storeA AR rfl _ _ rfl _ (wn (M - 1 - m)) (wn_size _) (wn_one _) rfl rfl (wn 0) (wn_size 0) 23 J.out.r ?_)
      exact bodyPost_ret (v := .agg (wn (M - 1 - m))) (resA AR Try.results69 _ _ (w.heap.size + 1) 23 (wn (M - 1 - m)) (wn_size _) rfl (setRow_heap _ _ _ _ _ _ J.out.r)) rfl ⟨rfl, below_setRow J.out.bel (by omega) _⟩
end
end Go.Proofs.Ytmfpnlnhebjelaa
