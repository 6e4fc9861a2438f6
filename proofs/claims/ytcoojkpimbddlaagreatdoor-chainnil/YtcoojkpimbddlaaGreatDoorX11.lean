/- wide.Div by one word, awake. awake; wide.Sum; the law WideLists: its walk. The contracts of the document's Compare and Not, and of wide.Not. The mathematics of bits and shifts. The contracts of wide.Bit, Bits, Not, and the document's Bit, Bits, Not, Compare. The contracts of wide.Bits, the document's Bits, Not, Compare, and wide.Not. The contracts of wide.shortShift, up and down. The contracts of the document's Right and Left. -/
import Derived.Test.YtcoojkpimbddlaaGreatDoorX10
import Derived.Test.YtcoojkpimbddlaaGreatDoorX09
namespace Go.Proofs.YtcoojkpimbddlaaGreatDoor
open Go.RowKit
open Go.Deep
theorem Ad.next {w W W' : World} {t : TypeId} {m n : Nat} {f : Nat → Nat} (j : Ad w W t m n f) (h : Below W.heap.size W W') : Ad w W' t m n f :=
  ⟨j.a.below h, j.b.below h, (h.block _ (lt_heap j.r)).trans j.r, j.o.below h, below_next j.bel h⟩
theorem Ad.alloc {w W : World} {t : TypeId} {m n : Nat} {f : Nat → Nat} (j : Ad w W t m n f) (o : Obj) : Ad w (W.alloc o) t m n f := j.next ((Below.refl _ _).alloc (Nat.le_refl _) _)
theorem Ad.ne {w W : World} {t : TypeId} {m n : Nat} {f : Nat → Nat} (j : Ad w W t m n f) : w.heap.size + 1 + 1 + 1 < W.heap.size := j.o.lt
theorem two_rows {w W : World} {t : TypeId} {m n : Nat} {f : Nat → Nat} (j : Ad w W t m n f) (c d : Array Value) : ((W.setRow (w.heap.size + 1 + 1) c).setRow (w.heap.size + 1 + 1 + 1) d).heap[w.heap.size + 1 + 1]? = some (.cells c t (0, 0)) ∧ ((W.setRow (w.heap.size + 1 + 1) c).setRow (w.heap.size + 1 + 1 + 1) d).heap[w.heap.size + 1 + 1 + 1]? = some (.cells d t (0, 0)) ∧ Below w.heap.size w ((W.setRow (w.heap.size + 1 + 1) c).setRow (w.heap.size + 1 + 1 + 1) d) := by
  refine ⟨(setRow_other _ _ _ _ (by omega)).trans (setRow_heap _ _ _ _ _ _ j.r), setRow_heap _ _ _ _ _ _ ((setRow_other _ _ _ _ (by omega)).trans j.o.heap), below_setRow (below_setRow j.bel (by omega) _) (by omega) _⟩
attribute [local go_sem ↓] ldW_eq svW_eq
section
set_option maxRecDepth 10000
set_option maxHeartbeats 2000000
theorem div_word (m n : Nat) (hm : m < M) (h0 : 0 < n) (hn : n < 18446744073709551616) (w : World) : Calls Tryz.prog 183 #[.agg (wn m), .agg (wn n)] w fun e w' => e = .returned (.tuple #[.agg (wn (m / n)), .agg (wn (m % n)), .int .i64 0]) ∧ Below w.heap.size w w' := by
  have hnM : n < M := Nat.lt_trans hn (by decide)
  have J0 := hide (Ad.start w 51 m n)
  have HZ := hide fun W => zero_any n hnM W
  rw [show decide (n = 0) = false by simp; omega] at HZ
  have HL := hide fun W => low_yes n hnM hn W
  have HD := hide fun W => divWord_any m n hm h0 hn W
  have HF := hide fun W => from_any (m % n) (Nat.lt_trans (Nat.mod_lt m h0) hn) W
  clear hm h0 hn hnM
  generalize m / n = q at *
  generalize m % n = r at *
  go_enter Tryz.func183, Tryz.ntmps183
  go_upto_region 1 with (first | refine wpList_boxA rfl _ rfl (wn m) rfl ?_ | refine wpList_boxA rfl _ rfl (wn n) rfl ?_ | refine wpList_allocA AW rfl rfl ?_)
  generalize (((w.alloc (.cells (wn m) 51)).alloc (.cells (wn n) 51)).alloc (.cells (wn 0) 51)).alloc (.cells (wn 0) 51) = W0 at *
  have b0 := hide J0.out.b.heap
  go_upto_region 5 with (first | refine wpList_loadA AW rfl _ rfl _ rfl (wn n) (wn_size _) 51 b0.out ?_ | refine wpList_loadA AW rfl _ rfl _ rfl (wn n) (wn_size _) 51 b1.out ?_ | (go_at_call 178; refine (HZ.out _).mono ?_; rintro e w1 ⟨rfl, be⟩; have J1 := hide (J0.out.next be); have b1 := hide J1.out.b.heap; clear be) | (go_at_call 236; refine (HL.out _).mono ?_; rintro e w2 ⟨rfl, be⟩; have J2 := hide (J1.out.next be); have a2 := hide J2.out.a.heap; clear be))
  clear J0 b0 J1 b1 HZ HL
  go_upto_region 6 with (first | refine wpList_loadA AW rfl _ rfl _ rfl (wn m) (wn_size _) 51 a2.out ?_ | (go_at_call 237; refine (HD.out _).mono ?_; rintro e w3 ⟨rfl, be⟩; have J3 := hide (J2.out.next be); clear be) | refine wpList_allocA AW rfl rfl ?_ | refine wpList_store_newA AW rfl _ _ rfl _ rfl (wn q) (wn_size _) (wn_one _) rfl rfl ?_)
  clear J2 a2 HD
  have J4 := hide (J3.out.alloc (.cells (wn q) 51))
  have H9 := hide (heap_alloc_last w3 (.cells (wn q) 51))
  have L9 := hide H9.out
  generalize w3.alloc (.cells (wn q) 51) = W4 at *
  have hlt := hide J3.out.ne
  generalize w3.heap.size = g at *
  clear J3
  have l0 : (ldW (.pointer (some ⟨g, 0, none⟩))).run Tryz.prog W4.drew = .ok (.agg (wn q)) W4.drew := ldW_row (W := W4.drew) H9.out
  go_region_with (go_at_call 182; refine (HF.out _).mono ?_; rintro e w5 ⟨rfl, be⟩; have J5 := hide (J4.out.drew.next be); have l1 := ldW_row ((be.block _ (lt_heap H9.out)).trans H9.out); have s1 := svW_row J5.out.r q; have s2 := svW_row (w := w5.setRow (w.heap.size + 1 + 1) (wn q)) ((setRow_other _ _ _ _ (by omega)).trans J5.out.o.heap) r; clear be)
  all_goals (go_wp2; exact bodyPost_ret (v := .tuple #[.agg (wn q), .agg (wn r), .int .i64 0]) (resAA3 AW Tryz.results183 _ _ (w.heap.size + 1 + 1) (w.heap.size + 1 + 1 + 1) 51 (wn q) (wn r) (wn_size _) (wn_size _) rfl (two_rows J5.out _ _).1 rfl (two_rows J5.out _ _).2.1 _ (by rfl)) rfl ⟨rfl, (two_rows J5.out _ _).2.2⟩)
end
theorem blk2s (w : World) (A B : Obj) (c : Array Value) : (((w.alloc A).alloc B).setRow w.heap.size c).heap[(w.alloc A).heap.size]? = some B := by
  have e : (w.alloc A).heap.size = w.heap.size + 1 := by simp
  rw [e]
  exact (setRow_other _ _ _ _ (by omega)).trans (blk2x w A B).2
theorem blk2w (w : World) (t : TypeId) (z c d : Array Value) : ((((w.alloc (.cells z t)).alloc (.cells z t)).setRow w.heap.size c).setRow (w.heap.size + 1) d).heap[w.heap.size]? = some (.cells c t (0, 0)) ∧ ((((w.alloc (.cells z t)).alloc (.cells z t)).setRow w.heap.size c).setRow (w.heap.size + 1) d).heap[w.heap.size + 1]? = some (.cells d t (0, 0)) ∧ Below w.heap.size w ((((w.alloc (.cells z t)).alloc (.cells z t)).setRow w.heap.size c).setRow (w.heap.size + 1) d) :=
  ⟨(setRow_other _ _ _ _ (by omega)).trans (setRow_heap _ _ _ _ _ _ (blk2x w _ _).1), setRow_heap _ _ _ _ _ _ ((setRow_other _ _ _ _ (by omega)).trans (blk2x w _ _).2), below_setRow (below_setRow (below2x w _ _) (Nat.le_refl _) _) (by omega) _⟩
section
set_option maxRecDepth 10000
set_option maxHeartbeats 2000000
end
theorem not_word (m i : Nat) (hm : m < M) (hi : i < 4) : wd (M - 1 - m) i = 18446744073709551615 - wd m i := by
  have h1 := add_word (M - 1 - m) m i
  rw [show M - 1 - m + m = M - 1 by omega] at h1
  have hP : 0 < 18446744073709551616 ^ i := Nat.pow_pos (by decide)
  have hall : ∀ k, k ≤ 4 → (M - 1) % 18446744073709551616 ^ k = 18446744073709551616 ^ k - 1 := by
    intro k hk
    have hk : k = 0 ∨ k = 1 ∨ k = 2 ∨ k = 3 ∨ k = 4 := by omega
    rcases hk with rfl | rfl | rfl | rfl | rfl <;> decide
  have hw : wd (M - 1) i = 18446744073709551615 := by
    have hi' : i = 0 ∨ i = 1 ∨ i = 2 ∨ i = 3 := by omega
    rcases hi' with rfl | rfl | rfl | rfl <;> decide
  have hc : cy (M - 1 - m) m i = 0 := by
    unfold cy
    apply Nat.div_eq_of_lt
    have e := Nat.add_mod (M - 1 - m) m (18446744073709551616 ^ i)
    rw [show M - 1 - m + m = M - 1 by omega, hall i (by omega)] at e
    have a1 := Nat.mod_lt (M - 1 - m) hP
    have a2 := Nat.mod_lt m hP
    generalize (M - 1 - m) % 18446744073709551616 ^ i = a at *
    generalize m % 18446744073709551616 ^ i = b at *
    generalize 18446744073709551616 ^ i = P at *
    rcases Nat.lt_or_ge (a + b) P with h | h
    · exact h
    · rw [Nat.mod_eq_sub_mod h, Nat.mod_eq_of_lt (by omega)] at e
      omega
  rw [hc, hw] at h1
  have b1 := wd_lt (M - 1 - m) i
  have b2 := wd_lt m i
  omega
section
set_option maxRecDepth 10000
set_option maxHeartbeats 2000000
end
end Go.Proofs.YtcoojkpimbddlaaGreatDoor
namespace Go.Proofs.YtcoojkpimbddlaaGreatDoor
theorem word_pow (j : Nat) : 18446744073709551616 ^ j = 2 ^ (64 * j) := by
  rw [Nat.pow_mul]
theorem wd_bit (n j t : Nat) : (wd n j).testBit t = (decide (t < 64) && n.testBit (64 * j + t)) := by
  unfold wd dg
  rw [word_pow, show (18446744073709551616 : Nat) = 2 ^ 64 from rfl, Nat.testBit_mod_two_pow, Nat.testBit_div_two_pow]
  congr 2
  omega
theorem wd_bit_at (n i : Nat) : (wd n (i / 64)).testBit (i % 64) = n.testBit i := by
  rw [wd_bit, show 64 * (i / 64) + i % 64 = i by omega, decide_eq_true (by omega), Bool.true_and]
theorem word_ext {x y : Nat} (h : ∀ t, x.testBit t = y.testBit t) : x = y := Nat.eq_of_testBit_eq h
theorem pow_bit (p t : Nat) : (2 ^ p).testBit t = decide (p = t) := by rw [Nat.testBit_two_pow]
theorem or_bit (a r : Nat) (h : a.testBit r = false) : a ||| 2 ^ r = a + 2 ^ r := by
  have hp := Nat.two_pow_pos r
  have h0 : a / 2 ^ r % 2 = 0 := by
    rw [Nat.testBit_eq_decide_div_mod_eq] at h
    simp at h
    omega
  have e : a = 2 ^ (r + 1) * (a / 2 ^ r / 2) + a % 2 ^ r := by
    have h1 := Nat.div_add_mod a (2 ^ r)
    have h2 := Nat.div_add_mod (a / 2 ^ r) 2
    rw [h0, Nat.add_zero] at h2
    rw [Nat.pow_succ, Nat.mul_assoc, h2]
    exact h1.symm
  have hl := Nat.mod_lt a hp
  generalize a % 2 ^ r = l at *
  generalize a / 2 ^ r / 2 = q at *
  have e1 : 2 ^ (r + 1) * q + l = 2 ^ (r + 1) * q ||| l := Nat.two_pow_add_eq_or_of_lt (by rw [Nat.pow_succ]; omega) q
  have e2 : 2 ^ (r + 1) * q + (2 ^ r * 1 + l) = 2 ^ (r + 1) * q ||| (2 ^ r * 1 + l) := Nat.two_pow_add_eq_or_of_lt (by rw [Nat.pow_succ]; omega) q
  have e3 : 2 ^ r * 1 + l = 2 ^ r * 1 ||| l := Nat.two_pow_add_eq_or_of_lt hl 1
  rw [e3, Nat.mul_one] at e2
  rw [e, e1, Nat.or_assoc, Nat.or_comm l, ← e2, ← e1]
  rw [Nat.mul_one] at e3
  omega
theorem wd_or (x p i : Nat) : wd (x ||| 2 ^ p) i = if i = p / 64 then wd x i ||| 2 ^ (p % 64) else wd x i := by
  split
  · rename_i h
    apply word_ext
    intro t
    rw [wd_bit, Nat.testBit_or, Nat.testBit_or, wd_bit, pow_bit, pow_bit]
    by_cases ht : t < 64
    · by_cases e : p = 64 * i + t
      · simp [ht, e, show (64 * i + t) % 64 = t by omega]
      · have e' : ¬ p % 64 = t := by omega
        simp [ht, e, e']
    · have e' : ¬ p % 64 = t := by omega
      simp [ht, e']
  · rename_i h
    apply word_ext
    intro t
    rw [wd_bit, Nat.testBit_or, wd_bit, pow_bit]
    by_cases ht : t < 64
    · have e' : ¬ p = 64 * i + t := by omega
      simp [e']
    · simp [ht]
theorem wd_put (x p : Nat) (h : x.testBit p = false) : wd x (p / 64) ||| 2 ^ (p % 64) = wd x (p / 64) + 2 ^ (p % 64) ∧ wd x (p / 64) + 2 ^ (p % 64) < 18446744073709551616 ∧ ∀ i, wd (x + 2 ^ p) i = if i = p / 64 then wd x (p / 64) + 2 ^ (p % 64) else wd x i := by
  have e := or_bit x p h
  have e1 : wd x (p / 64) ||| 2 ^ (p % 64) = wd x (p / 64) + 2 ^ (p % 64) := or_bit _ _ (by rw [wd_bit_at]; exact h)
  refine ⟨e1, ?_, fun i => ?_⟩
  · rw [← e1]
    exact Nat.or_lt_two_pow (wd_lt x _) (Nat.pow_lt_pow_right (by decide) (Nat.mod_lt _ (by decide)))
  · rw [← e, wd_or]
    split
    · rename_i hi
      rw [hi, e1]
    · rfl
theorem up_word (m n i : Nat) : wd (m * 2 ^ n) i = if i < n / 64 then 0 else wd m (i - n / 64) * 2 ^ (n % 64) % 18446744073709551616 ||| (if n / 64 < i then wd m (i - n / 64 - 1) / 2 ^ (64 - n % 64) else 0) := by
  apply word_ext
  intro t
  rw [wd_bit, Nat.testBit_mul_two_pow]
  split
  · rename_i h
    have : ¬ n ≤ 64 * i + t ∨ ¬ t < 64 := by omega
    rcases this with h | h <;> simp [h]
  · rename_i h
    rw [Nat.testBit_or, show (18446744073709551616 : Nat) = 2 ^ 64 from rfl, Nat.testBit_mod_two_pow, Nat.testBit_mul_two_pow, wd_bit]
    by_cases ht : t < 64
    · by_cases hp : t < n % 64
      · by_cases hi : n / 64 < i
        · rw [if_pos hi, Nat.testBit_div_two_pow, wd_bit]
          have h1 : ¬ n % 64 ≤ t := by omega
          have h2 : n ≤ 64 * i + t := by omega
          have h3 : 64 - n % 64 + t < 64 := by omega
          have h4 : 64 * (i - n / 64 - 1) + (64 - n % 64 + t) = 64 * i + t - n := by omega
          simp [ht, h1, h2, h3, h4, Nat.add_comm t]
        · rw [if_neg hi]
          have h1 : ¬ n % 64 ≤ t := by omega
          have h2 : ¬ n ≤ 64 * i + t := by omega
          simp [h1, h2]
      · have h1 : n % 64 ≤ t := by omega
        have h2 : n ≤ 64 * i + t := by omega
        have h3 : t - n % 64 < 64 := by omega
        have h4 : 64 * (i - n / 64) + (t - n % 64) = 64 * i + t - n := by omega
        have h5 : (if n / 64 < i then wd m (i - n / 64 - 1) / 2 ^ (64 - n % 64) else 0).testBit t = false := by
          split
          · rw [Nat.testBit_div_two_pow, wd_bit]
            have : ¬ t + (64 - n % 64) < 64 := by omega
            simp [this, Nat.add_comm]
          · simp
        rw [h5]
        simp [ht, h1, h2, h3, h4]
    · have h5 : (if n / 64 < i then wd m (i - n / 64 - 1) / 2 ^ (64 - n % 64) else 0).testBit t = false := by
        split
        · rw [Nat.testBit_div_two_pow, wd_bit]
          have : ¬ t + (64 - n % 64) < 64 := by omega
          simp [this, Nat.add_comm]
        · simp
      rw [h5]
      simp [ht]
theorem down_word (m n i : Nat) : wd (m / 2 ^ n) i = wd m (i + n / 64) / 2 ^ (n % 64) ||| wd m (i + n / 64 + 1) * 2 ^ (64 - n % 64) % 18446744073709551616 := by
  apply word_ext
  intro t
  rw [wd_bit, Nat.testBit_div_two_pow, Nat.testBit_or, Nat.testBit_div_two_pow, wd_bit, show (18446744073709551616 : Nat) = 2 ^ 64 from rfl, Nat.testBit_mod_two_pow, Nat.testBit_mul_two_pow, wd_bit]
  by_cases ht : t < 64
  · by_cases hp : n % 64 + t < 64
    · have h1 : ¬ 64 - n % 64 ≤ t := by omega
      have h2 : 64 * (i + n / 64) + (n % 64 + t) = n + (64 * i + t) := by omega
      simp [ht, hp, h1, h2, Nat.add_comm t]
      congr 1
      omega
    · have h1 : 64 - n % 64 ≤ t := by omega
      have h2 : 64 * (i + n / 64 + 1) + (t - (64 - n % 64)) = n + (64 * i + t) := by omega
      have h3 : t - (64 - n % 64) < 64 := by omega
      simp [ht, hp, h1, h2, h3, Nat.add_comm t]
      congr 1
      omega
  · have h1 : ¬ n % 64 + t < 64 := by omega
    simp [ht, h1, Nat.add_comm t]
end Go.Proofs.YtcoojkpimbddlaaGreatDoor
namespace Go.Proofs.YtcoojkpimbddlaaGreatDoor
open Go.RowKit
open Go.Deep
section
set_option maxRecDepth 10000
set_option maxHeartbeats 2000000
end
theorem wd_top (m i : Nat) (h : m < 18446744073709551616 ^ (i + 1)) : wd m i = m / 18446744073709551616 ^ i := by
  unfold wd dg
  apply Nat.mod_eq_of_lt
  rw [Nat.div_lt_iff_lt_mul (Nat.pow_pos (by decide)), ← Nat.pow_succ']
  exact h
theorem bits_word (m i : Nat) (h : m < 18446744073709551616 ^ (i + 1)) (h0 : wd m i ≠ 0) : bl m = i * 64 + bl (wd m i) := by
  rw [wd_top m i h] at h0 ⊢
  rw [word_pow] at *
  have : 2 ^ (64 * i) ≤ m := by
    rcases Nat.lt_or_ge m (2 ^ (64 * i)) with h' | h'
    · exact absurd (Nat.div_eq_of_lt h') h0
    · exact h'
  rw [bl_shift m (64 * i) this, Nat.mul_comm]
theorem bits_less (m i : Nat) (h : m < 18446744073709551616 ^ (i + 1)) (h0 : wd m i = 0) : m < 18446744073709551616 ^ i := by
  rw [wd_top m i h] at h0
  exact (Nat.div_eq_zero_iff_lt (Nat.pow_pos (by decide))).1 h0
section
set_option maxRecDepth 10000
set_option maxHeartbeats 2000000
theorem bits_any (m : Nat) (hm : m < M) (w : World) : Calls Tryz.prog 292 #[.agg (wn m)] w fun e w' => e = .returned (.int .i64 ((bl m : Nat) : Int)) ∧ Below w.heap.size w w' := by
  have hA : Hid (Nd (w.alloc (.cells (wn m) 51)) w.heap.size 51 4 (wd m)) := nd_alloc w 51 m
  have BB := hide ((Below.refl w.heap.size w).alloc (Nat.le_refl _) (.cells (wn m) 51))
  have H4 : Hid (m < 18446744073709551616 ^ 4) := by rw [M_eq] at hm; exact hm
  clear hm
  go_enter Tryz.func292, Tryz.ntmps292
  go_wp2_with (refine wpList_boxA rfl _ rfl (wn m) rfl ?_)
  generalize w.alloc (.cells (wn m) 51) = W0 at *
  go_loopw [3] (fun d wr => ∃ i : Nat, i ≤ 4 ∧ d = .int .i64 ((i : Int) - 1) ∧ wr = W0 ∧ Hid (m < 18446744073709551616 ^ i)) (fun d _ => (1 + intOf d).toNat)
  case atStart => exact ⟨4, by omega, rfl, rfl, H4⟩
  case round =>
    obtain ⟨i, hi, rfl, hwr, H⟩ := hrel
    subst wr
    rcases i with _ | i
    · have h0 : ¬ (0 : Int) ≤ ((0 : Nat) : Int) - 1 := by omega
      have hz : m = 0 := by have := H.out; rw [Nat.pow_zero] at this; omega
      have hb : Hid (bl m = 0) := by unfold Hid; rw [hz, bl_zero]
      clear hz
      go_wp2
      go_ret
      exact ⟨by rw [hb.out]; rfl, BB.out⟩
    · have e1 : ((i + 1 : Nat) : Int) - 1 = i := by omega
      have hi4 : (i : Int) < 4 := by omega
      have b0 : (0 : Int) ≤ i := by omega
      have hc := hA.out.cell (show i < 4 by omega)
      rw [e1]
      by_cases h0 : wd m i = 0
      · have H1 := hide (bits_less m i H.out h0)
        rw [h0] at hc
        clear h0
        go_wp2
        exact ⟨⟨i, by omega, rfl, trivial, H1⟩, by simp [intOf]; omega⟩
      · have hb := hide (bits_word m i H.out h0)
        have hne : (((wd m i : Nat) : Int) != 0) = true := by simp; exact h0
        have hn0 : ((wd m i : Nat) : Int) ≠ 0 := by omega
        have HL := hide fun W => len64_int ((wd m i : Nat) : Int) (by omega) (by have := wd_lt m i; omega) W
        rw [Int.toNat_natCast] at HL
        have hl : bl (wd m i) ≤ 64 := bl_le_of _ 64 (wd_lt m i)
        have w1 : IntKind.i64.wrap ((i : Int) * 64) = i * 64 := wrapI _ (by omega) (by omega)
        have w2 : IntKind.i64.wrap ((i : Int) * 64 + ((bl (wd m i) : Nat) : Int)) = ((bl m : Nat) : Int) := by
          rw [wrapI _ (by omega) (by omega), hb.out]
          omega
        clear h0
        generalize bl (wd m i) = L at *
        generalize hX : ((wd m i : Nat) : Int) = X at *
        clear hX
        go_wp2_with (go_at_call 265; refine (HL.out _).mono ?_; rintro e w3 ⟨rfl, hw3⟩; subst w3)
        go_ret
        exact ⟨rfl, BB.out⟩
end
def sh (n : Int) : Int := if n < -256 then -256 else if 256 < n then 256 else n
theorem wd_none (m k : Nat) (hm : m < M) (h : 4 ≤ k) : wd m k = 0 := by
  unfold wd dg
  rw [Nat.div_eq_of_lt, Nat.zero_mod]
  rw [M_eq] at hm
  exact Nat.lt_of_lt_of_le hm (Nat.pow_le_pow_right (by decide) h)
structure Up (w W : World) (t : TypeId) (m : Nat) (f : Nat → Nat) : Prop where
  a : Nd W w.heap.size t 4 (wd m)
  r : W.heap[w.heap.size + 1]? = some (.cells (wn 0) t (0, 0))
  o : Nd W (w.heap.size + 1 + 1) t 4 f
  bel : Below w.heap.size w W
theorem Up.start (w : World) (t : TypeId) (m : Nat) : Up w (((w.alloc (.cells (wn m) t)).alloc (.cells (wn 0) t)).alloc (.cells (wn 0) t)) t m (wd 0) := by
  obtain ⟨e1, e2, e3⟩ := blk3 w (.cells (wn m) t) (.cells (wn 0) t) (.cells (wn 0) t)
  exact ⟨Nd.of_heap e1, e2, Nd.of_heap e3, below3 w _ _ _⟩
section
variable {w W W' : World} {t : TypeId} {m : Nat} {f : Nat → Nat}
theorem Up.set (j : Up w W t m f) (i x : Nat) : Up w (W.setCell ⟨w.heap.size + 1 + 1, i, none⟩ (.int .u64 ((x : Nat) : Int))) t m (fun k => if k = i then x else f k) :=
  ⟨j.a.other (by omega) _ _, (Below.heap_setCell _ _ _ _ (by simp)).trans j.r, j.o.set i x, j.bel.setCell (by simp; omega) _⟩
theorem Up.drew (j : Up w W t m f) : Up w W.drew t m f := ⟨j.a, j.r, j.o, j.bel.drew⟩
theorem Up.congr (j : Up w W t m f) {f' : Nat → Nat} (e : ∀ i, i < 4 → f i = f' i) : Up w W t m f' := ⟨j.a, j.r, j.o.congr e, j.bel⟩
theorem Up.next (j : Up w W t m f) (h : Below W.heap.size W W') : Up w W' t m f := ⟨j.a.below h, (h.block _ (lt_heap j.r)).trans j.r, j.o.below h, below_next j.bel h⟩
end
theorem up_zero (m n j : Nat) (_ : j < 4) : wd 0 j = wf (m * 2 ^ n) (n / 64) j := by
  unfold wf
  split
  · rename_i h
    rw [up_word, if_pos h, wd, dg_zero]
  · rw [wd, dg_zero]
theorem shl_word (a s : Nat) : IntKind.u64.wrap ((a : Int) * 2 ^ s) = ((a * 2 ^ s % 18446744073709551616 : Nat) : Int) := low_word a s
theorem shr_word (a s : Nat) : (a : Int) / 2 ^ s = ((a / 2 ^ s : Nat) : Int) := by simp
def dnf (m n i j : Nat) : Nat := if j + n / 64 + 1 < i then wd (m / 2 ^ n) j else if j + n / 64 + 1 = i then wd m (j + n / 64) / 2 ^ (n % 64) else 0
theorem dn_zero (m n j : Nat) (_ : j < 4) : wd 0 j = dnf m n (n / 64) j := by
  rw [dnf, if_neg (by omega), if_neg (by omega), wd, dg_zero]
theorem dn_four (m n : Nat) (hm : m < M) (j : Nat) (_ : j < 4) : dnf m n 4 j = wd (m / 2 ^ n) j := by
  unfold dnf
  split
  · rfl
  · rw [down_word, wd_none m (j + n / 64 + 1) hm (by omega)]
    split
    · simp
    · rw [wd_none m (j + n / 64) hm (by omega)]
      simp
theorem dn_first (m n i j : Nat) (h : n / 64 ≤ i) (_ : i < 4) : (if j = i - n / 64 then wd m i / 2 ^ (n % 64) else dnf m n i j) = dnf m n (i + 1) j ∨ n / 64 < i := by
  rcases Nat.lt_or_ge (n / 64) i with h' | h'
  · exact .inr h'
  · left
    have e : i = n / 64 := by omega
    by_cases hj : j = i - n / 64
    · rw [if_pos hj, dnf, if_neg (show ¬ j + n / 64 + 1 < i + 1 by omega), if_pos (by omega), show j + n / 64 = i by omega]
    · rw [if_neg hj, dnf, dnf, if_neg (show ¬ j + n / 64 + 1 < i by omega), if_neg (show ¬ j + n / 64 + 1 = i by omega), if_neg (show ¬ j + n / 64 + 1 < i + 1 by omega), if_neg (by omega)]
theorem dn_second (m n k i j : Nat) (h : k + n / 64 + 1 = i) : (if j = k then wd m (k + n / 64) / 2 ^ (n % 64) ||| wd m i * 2 ^ (64 - n % 64) % 18446744073709551616 else if j = k + 1 then wd m i / 2 ^ (n % 64) else dnf m n i j) = dnf m n (i + 1) j := by
  by_cases h1 : j = k
  · rw [if_pos h1, dnf, if_pos (by omega), down_word, h1, h]
  · rw [if_neg h1]
    by_cases h2 : j = k + 1
    · rw [if_pos h2, dnf, if_neg (by omega), if_pos (by omega), show j + n / 64 = i by omega]
    · rw [if_neg h2, dnf, dnf]
      by_cases h3 : j + n / 64 + 1 < i
      · rw [if_pos h3, if_pos (by omega)]
      · rw [if_neg h3, if_neg (by omega), if_neg (by omega), if_neg (by omega)]
section
set_option maxRecDepth 10000
set_option maxHeartbeats 2000000
theorem short_any (n : Int) (w : World) : Calls Tryz.prog 287 #[.int .i64 n] w fun e w' => e = .returned (.int .i64 (sh n)) ∧ w' = w := by
  have h : n ≤ -256 ∨ 256 < n ∨ (-256 < n ∧ n ≤ 256) := by omega
  rcases h with h | h | h
  · have e : sh n = -256 := by
      unfold sh
      split
      · rfl
      · rw [if_neg (by omega)]
        omega
    have m1 : min n 256 = n := by omega
    have m2 : max (-256) n = -256 := by omega
    rw [e]
    clear e
    go_enter Tryz.func287, Tryz.ntmps287
    go_wp2
    go_ret
    exact ⟨rfl, rfl⟩
  · have e : sh n = 256 := by rw [sh, if_neg (by omega), if_pos h]
    have m1 : min n 256 = 256 := by omega
    rw [e]
    clear e
    go_enter Tryz.func287, Tryz.ntmps287
    go_wp2
    go_ret
    exact ⟨rfl, rfl⟩
  · have e : sh n = n := by rw [sh, if_neg (by omega), if_neg (by omega)]
    have m1 : min n 256 = n := by omega
    have m2 : max (-256) n = n := by omega
    rw [e]
    clear e
    obtain ⟨h1, h2⟩ := h
    go_enter Tryz.func287, Tryz.ntmps287
    go_wp2
    go_ret
    exact ⟨rfl, rfl⟩
theorem up_any (m n : Nat) (hn : n ≤ 256) (w : World) : Calls Tryz.prog 289 #[.agg (wn m), .int .i64 (n : Int)] w fun e w' => e = .returned (.agg (wn (m * 2 ^ n))) ∧ Below w.heap.size w w' := by
  have J0 := hide ((Up.start w 51 m).congr (fun i hi => up_zero m n i hi))
  have HW : Hid (∀ i, wd (m * 2 ^ n) i = if i < n / 64 then 0 else wd m (i - n / 64) * 2 ^ (n % 64) % 18446744073709551616 ||| (if n / 64 < i then wd m (i - n / 64 - 1) / 2 ^ (64 - n % 64) else 0)) := fun i => up_word m n i
  have d1 : (n : Int) / 64 = ((n / 64 : Nat) : Int) := by omega
  have d2 : (n : Int) % 64 = ((n % 64 : Nat) : Int) := by omega
  have hq : n / 64 ≤ 4 := by omega
  have hr : n % 64 < 64 := by omega
  generalize m * 2 ^ n = U at *
  generalize n / 64 = q at *
  generalize n % 64 = r at *
  have r0 : (0 : Int) ≤ r := by omega
  have r1 : (r : Int) ≤ 64 := by omega
  have r2 : IntKind.i64.wrap (64 - (r : Int)) = 64 - r := wrapI _ (by omega) (by omega)
  have r3 : (64 - (r : Int)).toNat = 64 - r := by omega
  have r4 : (0 : Int) ≤ 64 - r := by omega
  have r5 : (64 - (r : Int)) ≤ 64 := by omega
  have n0 : (0 : Int) ≤ n := by omega
  clear hn
  go_enter Tryz.func289, Tryz.ntmps289
  go_wp2_with (first | refine wpList_boxA rfl _ rfl (wn m) rfl ?_ | refine wpList_allocA AW rfl rfl ?_)
  generalize ((w.alloc (.cells (wn m) 51)).alloc (.cells (wn 0) 51)).alloc (.cells (wn 0) 51) = W0 at *
  go_loopw [8] (fun d wr => ∃ i : Nat, q ≤ i ∧ i ≤ 4 ∧ d = .int .i64 i ∧ Hid (Up w wr 51 m (wf U i))) (fun d _ => (4 - intOf d).toNat)
  case atStart => exact ⟨q, Nat.le_refl _, hq, rfl, J0⟩
  case round =>
    clear J0
    obtain ⟨i, hqi, hi, rfl, J⟩ := hrel
    by_cases hlt : i < 4
    · have hi4 : (i : Int) < 4 := by omega
      have i0 : (0 : Int) ≤ i := by omega
      obtain ⟨d, hd⟩ : ∃ d, d = i - q := ⟨_, rfl⟩
      have s1 : IntKind.i64.wrap ((i : Int) - q) = d := by rw [wrapI _ (by omega) (by omega)]; omega
      have hd4 : (d : Int) < 4 := by omega
      have hd0 : (0 : Int) ≤ d := by omega
      have ca := J.out.a.cell (show d < 4 by omega)
      have co := J.out.o.cell hlt
      have fo := J.out.o.fz i
      have hx1 := shl_word (wd m d) r
      have hiw : IntKind.i64.wrap ((i : Int) + 1) = i + 1 := wrapI _ (by omega) (by omega)
      have HU := hide (HW.out i)
      rw [if_neg (show ¬ i < q by omega), ← hd] at HU
      obtain ⟨x1, hx⟩ : ∃ x, x = wd m d * 2 ^ r % 18446744073709551616 := ⟨_, rfl⟩
      rw [← hx] at hx1 HU
      have hx1l : x1 < 18446744073709551616 := by rw [hx]; exact Nat.mod_lt _ (by decide)
      by_cases hgt : q < i
      · have t1 : (q : Int) < i := by omega
        rw [if_pos hgt] at HU
        obtain ⟨k, hk⟩ : ∃ k, d = k + 1 := ⟨d - 1, by omega⟩
        have s2 : IntKind.i64.wrap ((d : Int) - 1) = k := by rw [wrapI _ (by omega) (by omega)]; omega
        rw [show d - 1 = k by omega] at HU
        have hx2 := shr_word (wd m k) (64 - r)
        have hx2l : wd m k / 2 ^ (64 - r) < 18446744073709551616 := Nat.lt_of_le_of_lt (Nat.div_le_self _ _) (wd_lt _ _)
        obtain ⟨x2, hxx⟩ : ∃ x, x = wd m k / 2 ^ (64 - r) := ⟨_, rfl⟩
        rw [← hxx] at HU hx2 hx2l
        have hor := u64_or_nat x1 x2 hx1l hx2l
        rw [← HU.out] at hor
        have hk4 : (k : Int) < 4 := by omega
        have hk0 : (0 : Int) ≤ k := by omega
        have KK := hide (show k < 4 by omega)
        have LL := hide hlt
        have QQ := hide (show q ≤ i + 1 by omega)
        clear hd hx hx1l hxx hx2l hk hgt hlt hqi hq hr hi
        go_upto_region 7 with fail
        have J1 := hide (J.out.set i x1)
        generalize wr.setCell ⟨w.heap.size + 1 + 1, i, none⟩ (.int .u64 (x1 : Int)) = W1 at *
        have ck := J1.out.a.cell KK.out
        have cq := J1.out.o.cell LL.out
        rw [if_pos rfl] at cq
        have fq := J1.out.o.fz i
        clear J ca co fo
        go_upto_region 8 with fail
        go_region
        go_wp2
        have L4 := LL.out
        exact ⟨⟨i + 1, QQ.out, by omega, by go_num, hide ((J1.out.drew.set i (wd U i)).congr (fun j _ => by rw [← wf_step U i j]; by_cases e : j = i <;> simp [e]))⟩, by simp [intOf]; omega⟩
      · have t1 : ¬ (q : Int) < i := by omega
        rw [if_neg hgt, Nat.or_zero] at HU
        have LL := hide hlt
        have QQ := hide (show q ≤ i + 1 by omega)
        clear hd hx hx1l hgt hlt hqi hq hr hi
        go_wp2
        have L4 := LL.out
        exact ⟨⟨i + 1, QQ.out, by omega, by go_num, hide ((J.out.set i x1).congr (fun j _ => by rw [← HU.out]; exact wf_step U i j))⟩, by simp [intOf]; omega⟩
    · have hke : i = 4 := by omega
      subst hke
      have H2 := (J.out.o.congr (wf_four U)).heap
      go_wp2_with (first | refine wpList_loadA AW rfl _ rfl _ rfl (wn U) (wn_size _) 51 H2 ?_ | refine wpList_storeA AW rfl _ _ rfl _ (wn U) (wn_size _) (wn_one _) rfl rfl (wn 0) (wn_size 0) 51 J.out.r ?_)
      exact bodyPost_ret (v := .agg (wn U)) (resA AW Tryz.results289 _ _ (w.heap.size + 1) 51 (wn U) (wn_size _) rfl (setRow_heap _ _ _ _ _ _ J.out.r)) rfl ⟨rfl, below_setRow J.out.bel (by omega) _⟩
theorem down_any (m n : Nat) (hm : m < M) (hn : n ≤ 256) (w : World) : Calls Tryz.prog 288 #[.agg (wn m), .int .i64 (n : Int)] w fun e w' => e = .returned (.agg (wn (m / 2 ^ n))) ∧ Below w.heap.size w w' := by
  have J0 := hide ((Up.start w 51 m).congr (fun i hi => dn_zero m n i hi))
  have HE : Hid (∀ i, i < 4 → dnf m n 4 i = wd (m / 2 ^ n) i) := fun i hi => dn_four m n hm i hi
  have HS : Hid (∀ i j, n / 64 ≤ i → i < 4 → (if j = i - n / 64 then wd m i / 2 ^ (n % 64) else dnf m n i j) = dnf m n (i + 1) j ∨ n / 64 < i) := fun i j h h4 => dn_first m n i j h h4
  have HT : Hid (∀ k i j, k + n / 64 + 1 = i → (if j = k then wd m (k + n / 64) / 2 ^ (n % 64) ||| wd m i * 2 ^ (64 - n % 64) % 18446744073709551616 else if j = k + 1 then wd m i / 2 ^ (n % 64) else dnf m n i j) = dnf m n (i + 1) j) := fun k i j h => dn_second m n k i j h
  have HC : Hid (∀ k i, k + n / 64 + 1 = i → dnf m n i k = wd m (k + n / 64) / 2 ^ (n % 64)) := fun k i h => by
    unfold Hid dnf at *
    rw [if_neg (by omega), if_pos h]
  have d1 : (n : Int) / 64 = ((n / 64 : Nat) : Int) := by omega
  have d2 : (n : Int) % 64 = ((n % 64 : Nat) : Int) := by omega
  have hq : n / 64 ≤ 4 := by omega
  have hr : n % 64 < 64 := by omega
  generalize m / 2 ^ n = U at *
  generalize dnf m n = F at *
  generalize n / 64 = q at *
  generalize n % 64 = r at *
  have r0 : (0 : Int) ≤ r := by omega
  have r1 : (r : Int) ≤ 64 := by omega
  have r2 : IntKind.i64.wrap (64 - (r : Int)) = 64 - r := wrapI _ (by omega) (by omega)
  have r3 : (64 - (r : Int)).toNat = 64 - r := by omega
  have r4 : (0 : Int) ≤ 64 - r := by omega
  have r5 : (64 - (r : Int)) ≤ 64 := by omega
  have n0 : (0 : Int) ≤ n := by omega
  clear hn
  go_enter Tryz.func288, Tryz.ntmps288
  go_wp2_with (first | refine wpList_boxA rfl _ rfl (wn m) rfl ?_ | refine wpList_allocA AW rfl rfl ?_)
  generalize ((w.alloc (.cells (wn m) 51)).alloc (.cells (wn 0) 51)).alloc (.cells (wn 0) 51) = W0 at *
  go_loopw [8] (fun d wr => ∃ i : Nat, q ≤ i ∧ i ≤ 4 ∧ d = .int .i64 i ∧ Hid (Up w wr 51 m (F i))) (fun d _ => (4 - intOf d).toNat)
  case atStart => exact ⟨q, Nat.le_refl _, hq, rfl, J0⟩
  case round =>
    clear J0
    obtain ⟨i, hqi, hi, rfl, J⟩ := hrel
    by_cases hlt : i < 4
    · have hi4 : (i : Int) < 4 := by omega
      have i0 : (0 : Int) ≤ i := by omega
      obtain ⟨d, hd⟩ : ∃ d, d = i - q := ⟨_, rfl⟩
      have s1 : IntKind.i64.wrap ((i : Int) - q) = d := by rw [wrapI _ (by omega) (by omega)]; omega
      have hd4 : (d : Int) < 4 := by omega
      have hd0 : (0 : Int) ≤ d := by omega
      have ca := J.out.a.cell hlt
      have co := J.out.o.cell (show d < 4 by omega)
      have fo := J.out.o.fz d
      have hx1 := shr_word (wd m i) r
      have hiw : IntKind.i64.wrap ((i : Int) + 1) = i + 1 := wrapI _ (by omega) (by omega)
      by_cases hgt : q < i
      · have t1 : (q : Int) < i := by omega
        obtain ⟨k, hk⟩ : ∃ k, d = k + 1 := ⟨d - 1, by omega⟩
        have s2 : IntKind.i64.wrap ((d : Int) - 1) = k := by rw [wrapI _ (by omega) (by omega)]; omega
        have hkq : k + q + 1 = i := by omega
        have hx2 := shl_word (wd m i) (64 - r)
        have hx2l : wd m i * 2 ^ (64 - r) % 18446744073709551616 < 18446744073709551616 := Nat.mod_lt _ (by decide)
        have hx3l : wd m (k + q) / 2 ^ r < 18446744073709551616 := Nat.lt_of_le_of_lt (Nat.div_le_self _ _) (wd_lt _ _)
        have hor := u64_or_nat _ _ hx3l hx2l
        have TT : Hid (∀ j, (if j = k then wd m (k + q) / 2 ^ r ||| wd m i * 2 ^ (64 - r) % 18446744073709551616 else if j = d then wd m i / 2 ^ r else F i j) = F (i + 1) j) := fun j => by rw [hk]; exact HT.out k i j hkq
        have CK := HC.out k i hkq
        have hkd : k ≠ d := by omega
        have KK := hide (And.intro (show k < 4 by omega) hkd)
        obtain ⟨x1, hxe1⟩ : ∃ x, x = wd m i / 2 ^ r := ⟨_, rfl⟩
        obtain ⟨x2, hxe2⟩ : ∃ x, x = wd m i * 2 ^ (64 - r) % 18446744073709551616 := ⟨_, rfl⟩
        obtain ⟨x3, hxe3⟩ : ∃ x, x = wd m (k + q) / 2 ^ r := ⟨_, rfl⟩
        rw [← hxe2, ← hxe3] at hor
        rw [← hxe1, ← hxe2, ← hxe3] at TT
        rw [← hxe1] at hx1
        rw [← hxe2] at hx2
        rw [← hxe3] at CK
        obtain ⟨x4, hxe4⟩ : ∃ x, x = x3 ||| x2 := ⟨_, rfl⟩
        rw [← hxe4] at hor TT
        have hk4 : (k : Int) < 4 := by omega
        have hk0 : (0 : Int) ≤ k := by omega
        have LL := hide hlt
        have QQ := hide (show q ≤ i + 1 by omega)
        have HCK := hide CK
        clear hd hx2l hx3l hk hgt hlt hqi hq hr hi hxe1 hxe2 hxe3 hxe4 hkq CK hkd
        go_upto_region 7 with fail
        have J1 := hide (J.out.set d x1)
        generalize wr.setCell ⟨w.heap.size + 1 + 1, d, none⟩ (.int .u64 (x1 : Int)) = W1 at *
        have ck := J1.out.a.cell LL.out
        have cq := J1.out.o.cell KK.out.1
        rw [if_neg KK.out.2, HCK.out] at cq
        have fq := J1.out.o.fz k
        clear J ca co fo
        go_upto_region 8 with fail
        go_region
        go_wp2
        have L4 := LL.out
        exact ⟨⟨i + 1, QQ.out, by omega, by go_num, hide ((J1.out.drew.set k x4).congr (fun j _ => TT.out j))⟩, by simp [intOf]; omega⟩
      · have t1 : ¬ (q : Int) < i := by omega
        have TT : Hid (∀ j, (if j = d then wd m i / 2 ^ r else F i j) = F (i + 1) j) := fun j => by
          rcases HS.out i j hqi hlt with h | h
          · rw [hd]; exact h
          · exact absurd h hgt
        obtain ⟨x1, hxe1⟩ : ∃ x, x = wd m i / 2 ^ r := ⟨_, rfl⟩
        rw [← hxe1] at hx1 TT
        have LL := hide hlt
        have QQ := hide (show q ≤ i + 1 by omega)
        clear hd hgt hlt hqi hq hr hi hxe1
        go_wp2
        have L4 := LL.out
        exact ⟨⟨i + 1, QQ.out, by omega, by go_num, hide ((J.out.set d x1).congr (fun j _ => TT.out j))⟩, by simp [intOf]; omega⟩
    · have hke : i = 4 := by omega
      subst hke
      have H2 := (J.out.o.congr HE.out).heap
      go_wp2_with (first | refine wpList_loadA AW rfl _ rfl _ rfl (wn U) (wn_size _) 51 H2 ?_ | refine wpList_storeA AW rfl _ _ rfl _ (wn U) (wn_size _) (wn_one _) rfl rfl (wn 0) (wn_size 0) 51 J.out.r ?_)
      exact bodyPost_ret (v := .agg (wn U)) (resA AW Tryz.results288 _ _ (w.heap.size + 1) 51 (wn U) (wn_size _) rfl (setRow_heap _ _ _ _ _ _ J.out.r)) rfl ⟨rfl, below_setRow J.out.bel (by omega) _⟩
end
theorem one_shl (r : Nat) (h : r < 64) : IntKind.u64.wrap ((2 : Int) ^ r) = ((2 ^ r : Nat) : Int) := by
  have h1 : 2 ^ r < 2 ^ 64 := Nat.pow_lt_pow_right (by decide) h
  rw [show ((2 : Int) ^ r) = ((2 ^ r : Nat) : Int) by simp]
  generalize 2 ^ r = p at *
  exact wrapu _ (by omega) (by omega)
section
set_option maxRecDepth 10000
set_option maxHeartbeats 2000000
end
section
set_option maxRecDepth 10000
set_option maxHeartbeats 2000000
end
end Go.Proofs.YtcoojkpimbddlaaGreatDoor
