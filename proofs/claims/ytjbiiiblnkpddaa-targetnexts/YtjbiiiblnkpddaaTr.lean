/- The law TargetNexts: its walk. -/
import Derived.Test.YtjbiiiblnkpddaaTq
namespace Go.Proofs.Ytjbiiiblnkpddaa
open Go.RowKit
open Go.Deep
theorem nxt_same (b : Nat) (h : okB b = true) : nxt (tgt b) 480 = tgt b := by
  have := (okB_iff b).1 h
  unfold nxt
  rw [Nat.mul_div_cancel _ (by decide)]
  omega
section
set_option maxRecDepth 10000
set_option maxHeartbeats 8000000
theorem targetNexts_walk (b : Nat) (hb : b < 4294967296) (f : Nat) (hf : f < 4294967296) (l : Nat) (hl : l < 4294967296) (w : World) : Calls Try.prog 6 #[.int .u32 (b : Int), .int .u32 (f : Int), .int .u32 (l : Int)] w fun e w' => e = .returned (.bool true) ∧ Below w.heap.size w w' := by
  have HAw := hide fun W => awake_any5 W
  have HE := hide fun W => expandN_any b hb W
  obtain ⟨l2, hl2⟩ : ∃ l2, l2 = (f + 480) % 4294967296 := ⟨_, rfl⟩
  have hl2l : l2 < 4294967296 := by rw [hl2]; exact Nat.mod_lt _ (by decide)
  have hw : IntKind.u32.wrap ((f : Int) + 480) = (l2 : Int) := by simp only [IntKind.wrap_u32]; omega
  cases hok : okB b
  · have H1 := hide fun W => next_no b f l hb hok W
    have H2 := hide fun W => nextN_no b f l hb hok W
    have H3 := hide fun W => next_no b f l2 hb hok W
    rw [hok] at HE
    generalize xt b = X at *
    clear hok hb hf hl hl2 hl2l
    go_enter Try.func6, Try.ntmps6
    go_upto_region 2 with (go_at_call 27; refine (H1.out _).mono ?_; rintro e w1 ⟨rfl, K1⟩)
    go_upto_region 3 with (go_at_call 28; refine (H2.out _).mono ?_; rintro e w2 ⟨rfl, be⟩; have K2 := hide (below_next K1 be); clear be)
    go_upto_region 4 with (go_at_call 27; refine (H3.out _).mono ?_; rintro e w3 ⟨rfl, be⟩; have K3 := hide (below_next K2.out be); clear be)
    go_wp2_with (first | (go_at_call 8; refine (HE.out _).mono ?_; rintro e w4 ⟨rfl, be⟩; have K4 := hide (below_next (below_next K3.out be) (below_allocZ w4 (.cells (bn X) 30))); clear be) | refine wpList_allocA AN rfl rfl ?_ | refine wpList_store_newA AN rfl _ _ rfl _ rfl (bn X) (bn_size _) (bn_one _) rfl rfl ?_ | (go_at_call 11; refine (HAw.out _).mono ?_; rintro e w5 ⟨rfl, be⟩; have K5 := hide (below_next K4.out be); clear be))
    go_ret
    exact ⟨rfl, K5.out⟩
  · have H1 := hide fun W => next_yes b f l hb hf hl hok W
    have H2 := hide fun W => nextN_yes b f l hb hf hl hok W
    have H3 := hide fun W => next_yes b f l2 hb hf hl2l hok W
    rw [hok, show xt b = tgt b by unfold xt; rw [hok]; rfl] at HE
    have hT := ((okB_iff b).1 hok).2.2
    have hTM : tgt b < M := Nat.lt_of_le_of_lt hT Lm_M
    have HC := hide fun W => compactN_any (tgt b) (Nat.lt_trans hTM M_MB) (Nat.le_trans (szB_le _ hTM) (by decide)) W
    have HEq : Hid (f ≤ 4294966815 → cpt (nxt (tgt b) (spn f l2)) = cpt (tgt b)) := fun h => by
      have e : spn f l2 = 480 := by
        have : l2 = f + 480 := by rw [hl2]; exact Nat.mod_eq_of_lt (by omega)
        unfold spn
        rw [this, if_pos (by omega)]
        omega
      rw [e, nxt_same b hok]
    generalize cpt (nxt (tgt b) (spn f l2)) = C2 at *
    generalize cpt (nxt (tgt b) (spn f l)) = C at *
    generalize cpt (tgt b) = D at *
    generalize tgt b = X at *
    have c1 : (((C : Nat) : Int) != ((C : Nat) : Int)) = false := by simp
    generalize ((C : Nat) : Int) = CC at *
    clear hok hb hl hl2 hl2l hT hTM
    by_cases hbig : 4294966815 < f
    case' pos =>
      have t1 : (4294966815 : Int) < (f : Int) := by omega
      have t2 : decide ((4294966815 : Int) < (f : Int)) = true := by simp only [decide_eq_true_eq]; exact t1
    case' neg =>
      have t1 : ¬ (4294966815 : Int) < (f : Int) := by omega
      have t2 : decide ((4294966815 : Int) < (f : Int)) = false := by simp only [decide_eq_false_iff_not]; exact t1
      have hE := HEq.out (by omega)
      subst hE
      have c2 : (((C2 : Nat) : Int) == ((C2 : Nat) : Int)) = true := by simp
    all_goals
      clear hbig hf HEq
      generalize hF : (f : Int) = FF at *
      clear hF
      go_enter Try.func6, Try.ntmps6
      go_upto_region 2 with (go_at_call 27; refine (H1.out _).mono ?_; rintro e w1 ⟨rfl, K1⟩)
      go_upto_region 3 with (go_at_call 28; refine (H2.out _).mono ?_; rintro e w2 ⟨rfl, be⟩; have K2 := hide (below_next K1 be); clear be)
      go_upto_region 4 with (go_at_call 27; refine (H3.out _).mono ?_; rintro e w3 ⟨rfl, be⟩; have K3 := hide (below_next K2.out be); clear be)
      go_upto_region 5 with (first | (go_at_call 8; refine (HE.out _).mono ?_; rintro e w4 ⟨rfl, be⟩; have K4 := hide (below_next (below_next K3.out be) (below_allocZ w4 (.cells (bn X) 30))); have r4 := hide (heap_alloc_last w4 (.cells (bn X) 30)); clear be) | refine wpList_allocA AN rfl rfl ?_ | refine wpList_store_newA AN rfl _ _ rfl _ rfl (bn X) (bn_size _) (bn_one _) rfl rfl ?_)
      generalize w4.alloc (.cells (bn X) 30) = W4 at *
      generalize w4.heap.size = g at *
      clear H1 H2 H3 HE
    · go_wp2_with (first | (go_at_call 11; refine (HAw.out _).mono ?_; rintro e w5 ⟨rfl, be⟩; have K5 := hide (below_next K4.out be); have r5 := hide ((be.block _ (lt_heap r4.out)).trans r4.out); clear be) | refine wpList_loadW AN rfl _ rfl g rfl (bn X) (bn_size _) 30 r5.out ?_ | (go_at_call 14; refine (HC.out _).mono ?_; rintro e w6 ⟨rfl, be⟩; have K6 := hide (below_next K5.out be); clear be))
      go_ret
      exact ⟨rfl, K6.out⟩
    · go_wp2_with (go_at_call 11; refine (HAw.out _).mono ?_; rintro e w5 ⟨rfl, be⟩; have K5 := hide (below_next K4.out be); clear be)
      go_ret
      exact ⟨rfl, K5.out⟩
end
end Go.Proofs.Ytjbiiiblnkpddaa
