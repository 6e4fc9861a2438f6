/- The contracts of target.realSpan and target.stretch. -/
import Derived.Test.YtjbiiiblnkpddaaTc
namespace Go.Proofs.Ytjbiiiblnkpddaa
open Go.RowKit
open Go.Deep
/-- The seconds from one to another, as far as they count. -/
def spn (f l : Nat) : Nat := max 120 (min (if f ≤ l then l - f else 0) 1920)
theorem spn_in (f l : Nat) : 120 ≤ spn f l ∧ spn f l ≤ 1920 := by unfold spn; omega
theorem stretch_math (T s : Nat) : T / 480 * s + T % 480 * s / 480 = T * s / 480 := by
  have h := Nat.div_add_mod T 480
  have e : T * s = 480 * (T / 480 * s) + T % 480 * s := by
    conv => lhs; rw [← h, Nat.add_mul, Nat.mul_assoc]
  rw [e, Nat.mul_add_div (by decide)]
theorem stretch_over (P q : Nat) : (decide (M ≤ P % M + q) || !decide (P / M = 0)) = decide (M ≤ P + q) := by
  have h := Nat.div_add_mod P M
  have hl := Nat.mod_lt P M_pos
  rw [Bool.eq_iff_iff]
  simp only [Bool.or_eq_true, Bool.not_eq_true', decide_eq_false_iff_not, decide_eq_true_eq]
  rcases Nat.eq_zero_or_pos (P / M) with h0 | h0
  · rw [h0, Nat.mul_zero, Nat.zero_add] at h
    rw [h, h0]
    simp
  · constructor
    · intro _
      have := Nat.le_mul_of_pos_right M h0
      omega
    · intro _
      exact .inr (by omega)
attribute [local go_sem ↓] ldW_eq svW_eq
section
set_option maxRecDepth 10000
set_option maxHeartbeats 8000000
theorem realSpan_any (f l : Nat) (hf : f < 4294967296) (hl : l < 4294967296) (w : World) : Calls Try.prog 40 #[.int .u32 (f : Int), .int .u32 (l : Int)] w fun e w' => e = .returned (.int .u64 ((spn f l : Nat) : Int)) ∧ Below w.heap.size w w' := by
  by_cases h : f ≤ l
  · have t1 : (f : Int) ≤ (l : Int) := by omega
    obtain ⟨d, hd⟩ : ∃ d, d = l - f := ⟨_, rfl⟩
    have w1 : IntKind.u32.wrap ((l : Int) - (f : Int)) = (d : Int) := by simp only [IntKind.wrap_u32]; omega
    have w2 : IntKind.u64.wrap (d : Int) = (d : Int) := wrapu _ (by omega) (by omega)
    rcases (show d ≤ 120 ∨ (120 < d ∧ d ≤ 1920) ∨ 1920 < d by omega) with hc | hc | hc
    · have m1 : min (d : Int) 1920 = d := by omega
      have m2 : max 120 (d : Int) = 120 := by omega
      have q1 : (d : Int) ≤ 1920 := by omega
      have q2 : (d : Int) ≤ 120 := by omega
      have e : spn f l = 120 := by unfold spn; rw [if_pos h]; omega
      rw [e]
      clear e hd h hf hl hc
      go_enter Try.func40, Try.ntmps40
      go_wp2
      go_ret
      exact ⟨rfl, Below.refl _ _⟩
    · have m1 : min (d : Int) 1920 = d := by omega
      have m2 : max 120 (d : Int) = d := by omega
      have q1 : (d : Int) ≤ 1920 := by omega
      have q2 : ¬ (d : Int) ≤ 120 := by omega
      have e : spn f l = d := by unfold spn; rw [if_pos h]; omega
      rw [e]
      clear e hd h hf hl hc
      go_enter Try.func40, Try.ntmps40
      go_wp2
      go_ret
      exact ⟨rfl, Below.refl _ _⟩
    · have m1 : min (d : Int) 1920 = 1920 := by omega
      have q1 : ¬ (d : Int) ≤ 1920 := by omega
      have e : spn f l = 1920 := by unfold spn; rw [if_pos h]; omega
      rw [e]
      clear e hd h hf hl hc
      go_enter Try.func40, Try.ntmps40
      go_wp2
      go_ret
      exact ⟨rfl, Below.refl _ _⟩
  · have t1 : ¬ (f : Int) ≤ (l : Int) := by omega
    have e : spn f l = 120 := by unfold spn; rw [if_neg h]; omega
    rw [e]
    clear e h hf hl
    go_enter Try.func40, Try.ntmps40
    go_wp2
    go_ret
    exact ⟨rfl, Below.refl _ _⟩
theorem stretch_any (x s : Nat) (hx : x ≤ Lm) (hs : s ≤ 1920) (w : World) : Calls Try.prog 39 #[.agg (wn x), .int .u64 (s : Int)] w fun e w' => e = .returned (.tuple #[.agg (wn (x * s / 480)), .bool (decide (M ≤ x * s / 480))]) ∧ Below w.heap.size w w' := by
  have hxM : x < M := Nat.lt_of_le_of_lt hx Lm_M
  have hM : 1000000 < M := by decide +kernel
  have HF : Hid (∀ W, Calls Try.prog 41 #[.int .u64 480] W fun e w' => e = .returned (.agg (wn 480)) ∧ Below W.heap.size W w') := fun W => from_any 480 (by decide) W
  have HF2 := hide fun W => from_any s (by omega) W
  have HD := hide fun W => div_any x 480 hxM (by decide) (by omega) W
  have hw : x / 480 < M := Nat.lt_of_le_of_lt (Nat.div_le_self _ _) hxM
  have HP := hide fun W => mul_any (x / 480) s hw (by omega) W
  rw [← wn_mod (x / 480 * s)] at HP
  have hl : x % 480 < 480 := Nat.mod_lt _ (by decide)
  have HP2 := hide fun W => mul_any (x % 480) s (by omega) (by omega) W
  have hp2 : x % 480 * s ≤ 480 * 1920 := Nat.mul_le_mul (by omega) hs
  have HD2 := hide fun W => div_any (x % 480 * s) 480 (by omega) (by decide) (by omega) W
  have hlow := Nat.mod_lt (x / 480 * s) M_pos
  have hq : x % 480 * s / 480 < M := Nat.lt_of_le_of_lt (Nat.div_le_self _ _) (by omega)
  have HA := hide fun W => wadd_any (x / 480 * s % M) (x % 480 * s / 480) hlow hq W
  rw [show wn (x / 480 * s % M + x % 480 * s / 480) = wn (x * s / 480) by rw [← wn_mod (_ % M + _), Nat.mod_add_mod, wn_mod, stretch_math]] at HA
  have hH : x / 480 * s / M < M := by
    have h1 : x / 480 * s / M < 1921 := Nat.div_lt_of_lt_mul (by
      have h2 : x / 480 * s ≤ x / 480 * 1920 := Nat.mul_le_mul_left _ hs
      omega)
    omega
  have HZ := hide fun W => zero_any _ hH W
  have hov := stretch_over (x / 480 * s) (x % 480 * s / 480)
  rw [stretch_math] at hov
  rw [← hov]
  have J0 : Hid (Rs w ((w.alloc (.cells (wn x) 25)).alloc (.cells (wn 0) 25)) [(w.heap.size + 1, 25, 0), (w.heap.size, 25, x)]) := Rs.start2 w 25 x 0
  generalize decide (x / 480 * s / M = 0) = hz at *
  generalize decide (M ≤ x / 480 * s % M + x % 480 * s / 480) = ov at *
  generalize x * s / 480 = V at *
  generalize x / 480 * s / M = H at *
  generalize x / 480 * s % M = P at *
  generalize x % 480 * s / M = H2 at *
  generalize x % 480 * s % 480 = R2 at *
  generalize x % 480 * s / 480 = Q2 at *
  generalize x % 480 * s = P2 at *
  generalize x / 480 = Q at *
  generalize x % 480 = R at *
  obtain ⟨res, hres⟩ : ∃ r, r = (ov || !hz) := ⟨_, rfl⟩
  rw [← hres]
  have HRes := hide hres
  clear hres hov hx hs hxM hM hw hl hp2 hlow hq hH
  go_enter Try.func39, Try.ntmps39
  go_upto_region 1 with (first | refine wpList_boxA rfl _ rfl (wn x) rfl ?_ | refine wpList_allocA AW rfl rfl ?_)
  generalize (w.alloc (.cells (wn x) 25)).alloc (.cells (wn 0) 25) = W0 at *
  go_upto_region 2 with (first | (go_at_call_of 41 (Value.int .u64 480); refine (HF.out _).mono ?_; rintro e w1 ⟨rfl, be⟩; have J1 := hide (J0.out.next be); clear be) | (go_at_call_of 41 (Value.int .u64 (s : Int)); refine (HF2.out _).mono ?_; rintro e w2 ⟨rfl, be⟩; have J2 := hide ((J1.out.next be).two 25 480 s); clear be) | refine wpList_allocA AW rfl rfl ?_ | refine wpList_storeA AW rfl _ _ rfl _ (wn 480) (wn_size _) (wn_one _) rfl rfl (wn 0) (wn_size _) 25 (blk2x w2 (.cells (wn 0) 25) (.cells (wn 0) 25)).1 ?_ | refine wpList_storeA AW rfl _ _ rfl _ (wn s) (wn_size _) (wn_one _) rfl rfl (wn 0) (wn_size _) 25 (blk2s w2 (.cells (wn 0) 25) (.cells (wn 0) 25) (wn 480)) ?_)
  try simp only [Act.put, List.setIfInBounds_toArray, List.set_cons_succ, List.set_cons_zero, hsz]
  generalize (((w2.alloc (.cells (wn 0) 25)).alloc (.cells (wn 0) 25)).setRow w2.heap.size (wn 480)).setRow (w2.heap.size + 1) (wn s) = W2 at *
  generalize w2.heap.size = g6 at *
  clear J0 J1 HF HF2
  have rx := hide (J2.out.at (g := w.heap.size) (t := 25) (n := x) (by simp))
  have r6 := hide (J2.out.at (g := g6) (t := 25) (n := 480) (by simp))
  go_upto_region 3 with (first | refine wpList_loadA AW rfl _ rfl (w.heap.size) rfl (wn x) (wn_size _) 25 rx.out ?_ | refine wpList_loadA AW rfl _ rfl (g6) rfl (wn 480) (wn_size _) 25 r6.out ?_ | (go_at_call 50; refine (HD.out _).mono ?_; rintro e w3 ⟨rfl, be⟩; have J3 := hide ((J2.out.next be).two 25 Q R); clear be) | refine wpList_allocA AW rfl rfl ?_ | refine wpList_storeA AW rfl _ _ rfl _ (wn Q) (wn_size _) (wn_one _) rfl rfl (wn 0) (wn_size _) 25 (blk2x w3 (.cells (wn 0) 25) (.cells (wn 0) 25)).1 ?_ | refine wpList_storeA AW rfl _ _ rfl _ (wn R) (wn_size _) (wn_one _) rfl rfl (wn 0) (wn_size _) 25 (blk2s w3 (.cells (wn 0) 25) (.cells (wn 0) 25) (wn Q)) ?_)
  try simp only [Act.put, List.setIfInBounds_toArray, List.set_cons_succ, List.set_cons_zero, hsz]
  generalize (((w3.alloc (.cells (wn 0) 25)).alloc (.cells (wn 0) 25)).setRow w3.heap.size (wn Q)).setRow (w3.heap.size + 1) (wn R) = W3 at *
  generalize w3.heap.size = g8 at *
  clear J2 rx r6 HD
  have r8 := hide (J3.out.at (g := g8) (t := 25) (n := Q) (by simp))
  have r7 := hide (J3.out.at (g := g6 + 1) (t := 25) (n := s) (by simp))
  go_upto_region 4 with (first | refine wpList_loadA AW rfl _ rfl (g8) rfl (wn Q) (wn_size _) 25 r8.out ?_ | refine wpList_loadA AW rfl _ rfl (g6 + 1) rfl (wn s) (wn_size _) 25 r7.out ?_ | (go_at_call 52; refine (HP.out _).mono ?_; rintro e w4 ⟨rfl, be⟩; have J4 := hide ((J3.out.next be).two 25 P H); clear be) | refine wpList_allocA AW rfl rfl ?_ | refine wpList_storeA AW rfl _ _ rfl _ (wn P) (wn_size _) (wn_one _) rfl rfl (wn 0) (wn_size _) 25 (blk2x w4 (.cells (wn 0) 25) (.cells (wn 0) 25)).1 ?_ | refine wpList_storeA AW rfl _ _ rfl _ (wn H) (wn_size _) (wn_one _) rfl rfl (wn 0) (wn_size _) 25 (blk2s w4 (.cells (wn 0) 25) (.cells (wn 0) 25) (wn P)) ?_)
  try simp only [Act.put, List.setIfInBounds_toArray, List.set_cons_succ, List.set_cons_zero, hsz]
  generalize (((w4.alloc (.cells (wn 0) 25)).alloc (.cells (wn 0) 25)).setRow w4.heap.size (wn P)).setRow (w4.heap.size + 1) (wn H) = W4 at *
  generalize w4.heap.size = g11 at *
  clear J3 r8 r7 HP
  have r9 := hide (J4.out.at (g := g8 + 1) (t := 25) (n := R) (by simp))
  have r7 := hide (J4.out.at (g := g6 + 1) (t := 25) (n := s) (by simp))
  go_upto_region 5 with (first | refine wpList_loadA AW rfl _ rfl (g8 + 1) rfl (wn R) (wn_size _) 25 r9.out ?_ | refine wpList_loadA AW rfl _ rfl (g6 + 1) rfl (wn s) (wn_size _) 25 r7.out ?_ | (go_at_call 52; refine (HP2.out _).mono ?_; rintro e w5 ⟨rfl, be⟩; have J5 := hide ((J4.out.next be).two 25 P2 H2); clear be) | refine wpList_allocA AW rfl rfl ?_ | refine wpList_storeA AW rfl _ _ rfl _ (wn P2) (wn_size _) (wn_one _) rfl rfl (wn 0) (wn_size _) 25 (blk2x w5 (.cells (wn 0) 25) (.cells (wn 0) 25)).1 ?_ | refine wpList_storeA AW rfl _ _ rfl _ (wn H2) (wn_size _) (wn_one _) rfl rfl (wn 0) (wn_size _) 25 (blk2s w5 (.cells (wn 0) 25) (.cells (wn 0) 25) (wn P2)) ?_)
  try simp only [Act.put, List.setIfInBounds_toArray, List.set_cons_succ, List.set_cons_zero, hsz]
  generalize (((w5.alloc (.cells (wn 0) 25)).alloc (.cells (wn 0) 25)).setRow w5.heap.size (wn P2)).setRow (w5.heap.size + 1) (wn H2) = W5 at *
  generalize w5.heap.size = g13 at *
  clear J4 r9 r7 HP2
  have r13 := hide (J5.out.at (g := g13) (t := 25) (n := P2) (by simp))
  have r6 := hide (J5.out.at (g := g6) (t := 25) (n := 480) (by simp))
  go_upto_region 6 with (first | refine wpList_loadA AW rfl _ rfl (g13) rfl (wn P2) (wn_size _) 25 r13.out ?_ | refine wpList_loadA AW rfl _ rfl (g6) rfl (wn 480) (wn_size _) 25 r6.out ?_ | (go_at_call 50; refine (HD2.out _).mono ?_; rintro e w6 ⟨rfl, be⟩; have J6 := hide ((J5.out.next be).two 25 Q2 R2); clear be) | refine wpList_allocA AW rfl rfl ?_ | refine wpList_storeA AW rfl _ _ rfl _ (wn Q2) (wn_size _) (wn_one _) rfl rfl (wn 0) (wn_size _) 25 (blk2x w6 (.cells (wn 0) 25) (.cells (wn 0) 25)).1 ?_ | refine wpList_storeA AW rfl _ _ rfl _ (wn R2) (wn_size _) (wn_one _) rfl rfl (wn 0) (wn_size _) 25 (blk2s w6 (.cells (wn 0) 25) (.cells (wn 0) 25) (wn Q2)) ?_)
  try simp only [Act.put, List.setIfInBounds_toArray, List.set_cons_succ, List.set_cons_zero, hsz]
  generalize (((w6.alloc (.cells (wn 0) 25)).alloc (.cells (wn 0) 25)).setRow w6.heap.size (wn Q2)).setRow (w6.heap.size + 1) (wn R2) = W6 at *
  generalize w6.heap.size = g15 at *
  clear J5 r13 r6 HD2
  have r11 := hide (J6.out.at (g := g11) (t := 25) (n := P) (by simp))
  have r15 := hide (J6.out.at (g := g15) (t := 25) (n := Q2) (by simp))
  go_upto_region 7 with (first | refine wpList_loadA AW rfl _ rfl (g11) rfl (wn P) (wn_size _) 25 r11.out ?_ | refine wpList_loadA AW rfl _ rfl (g15) rfl (wn Q2) (wn_size _) 25 r15.out ?_ | (go_at_call 49; refine (HA.out _).mono ?_; rintro e w7 ⟨rfl, be⟩; have J7 := hide ((J6.out.next be).new 25 V); clear be) | refine wpList_allocA AW rfl rfl ?_ | refine wpList_store_newA AW rfl _ _ rfl _ rfl (wn V) (wn_size _) (wn_one _) rfl rfl ?_)
  generalize w7.alloc (.cells (wn V) 25) = W7 at *
  generalize w7.heap.size = g18 at *
  clear J6 r11 r15 HA
  have rv := hide (J7.out.at (g := g18) (t := 25) (n := V) (by simp))
  have rh := hide (J7.out.at (g := g11 + 1) (t := 25) (n := H) (by simp))
  have rr := hide (J7.out.at (g := w.heap.size + 1) (t := 25) (n := 0) (by simp))
  cases ov
  · rw [Bool.false_or] at HRes
    have l0 := ldW_row (W := W7.drew) rv.out
    have l1 := ldW_row (W := W7.drew) rh.out
    go_region_with (go_at_call 30; refine (HZ.out _).mono ?_; rintro e w8 ⟨rfl, be⟩; have J8 := hide (J7.out.drew.next be); have l2 := ldW_row (J8.out.at (g := g18) (t := 25) (n := V) (by simp)); have q3 := hide (J8.out.at (g := w.heap.size + 1) (t := 25) (n := 0) (by simp)); have s1 := svW_row q3.out V; clear be)
    all_goals (go_wp2; exact bodyPost_ret (v := .tuple #[.agg (wn V), .bool (!hz)]) (resA2 AW Try.results39 _ _ (w.heap.size + 1) 25 (wn V) (wn_size _) rfl (setRow_heap _ _ _ _ _ _ q3.out) _ (by rfl)) rfl ⟨by rw [HRes.out], below_setRow J8.out.bel (by omega) _⟩)
  · rw [Bool.true_or] at HRes
    have l0 := ldW_row (W := W7.drew) rv.out
    have s1 := svW_row (w := W7.drew) rr.out V
    go_region
    go_wp2
    exact bodyPost_ret (v := .tuple #[.agg (wn V), .bool true]) (resA2 AW Try.results39 _ _ (w.heap.size + 1) 25 (wn V) (wn_size _) rfl (setRow_heap W7.drew _ _ _ _ _ rr.out) _ (by rfl)) rfl ⟨by rw [HRes.out], below_setRow J7.out.bel.drew (by omega) _⟩
end
end Go.Proofs.Ytjbiiiblnkpddaa
