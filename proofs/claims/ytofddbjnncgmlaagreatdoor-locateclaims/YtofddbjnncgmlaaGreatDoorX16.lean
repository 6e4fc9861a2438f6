/- The contracts of the document's Compare and Not, and of wide.Not. The mathematics of bits and shifts. The contracts of wide.Bit, Bits, Not, and the document's Bit, Bits, Not, Compare. The contracts of wide.Bits, the document's Bits, Not, Compare, and wide.Not. -/
import Derived.Test.YtofddbjnncgmlaaGreatDoorX15
import Derived.Test.YtofddbjnncgmlaaGreatDoorX13
namespace Go.Proofs.YtofddbjnncgmlaaGreatDoor
open Go.RowKit
open Go.Deep
theorem div_word_step (m i : Nat) : m / 18446744073709551616 ^ i = 18446744073709551616 * (m / 18446744073709551616 ^ (i + 1)) + wd m i := by
  unfold wd dg
  rw [Nat.pow_succ, ← Nat.div_div_eq_div_mul]
  exact (Nat.div_add_mod _ _).symm
theorem cmp_eq {m n i : Nat} (h : m / 18446744073709551616 ^ (i + 1) = n / 18446744073709551616 ^ (i + 1)) (e : wd m i = wd n i) : m / 18446744073709551616 ^ i = n / 18446744073709551616 ^ i := by
  rw [div_word_step, div_word_step n, h, e]
theorem cmp_lt {m n i : Nat} (h : m / 18446744073709551616 ^ (i + 1) = n / 18446744073709551616 ^ (i + 1)) (e : wd m i < wd n i) : m < n := by
  have h1 := div_word_step m i
  have h2 := div_word_step n i
  rw [h] at h1
  rcases Nat.lt_or_ge m n with h' | h'
  · exact h'
  · have := Nat.div_le_div_right (c := 18446744073709551616 ^ i) h'
    omega
theorem not_word (m i : Nat) (hm : m < M) (hi : i < 4) : wd (M - 1 - m) i = 18446744073709551615 - wd m i := by
  have h1 := add_word (M - 1 - m) m i
  rw [show M - 1 - m + m = M - 1 by omega] at h1
  have hP : 0 < 18446744073709551616 ^ i := Nat.pow_pos (by decide)
  have hall : ∀ k, k ≤ 4 → (M - 1) % 18446744073709551616 ^ k = 18446744073709551616 ^ k - 1 := by
    intro k hk
    have hk : k = 0 ∨ k = 1 ∨ k = 2 ∨ k = 3 ∨ k = 4 := by omega
    rcases hk with rfl | rfl | rfl | rfl | rfl <;> decide
  have hw : wd (M - 1) i = 18446744073709551615 := by
    have hi' : i = 0 ∨ i = 1 ∨ i = 2 ∨ i = 3 := by omega
    rcases hi' with rfl | rfl | rfl | rfl <;> decide
  have hc : cy (M - 1 - m) m i = 0 := by
    unfold cy
    apply Nat.div_eq_of_lt
    have e := Nat.add_mod (M - 1 - m) m (18446744073709551616 ^ i)
    rw [show M - 1 - m + m = M - 1 by omega, hall i (by omega)] at e
    have a1 := Nat.mod_lt (M - 1 - m) hP
    have a2 := Nat.mod_lt m hP
    generalize (M - 1 - m) % 18446744073709551616 ^ i = a at *
    generalize m % 18446744073709551616 ^ i = b at *
    generalize 18446744073709551616 ^ i = P at *
    rcases Nat.lt_or_ge (a + b) P with h | h
    · exact h
    · rw [Nat.mod_eq_sub_mod h, Nat.mod_eq_of_lt (by omega)] at e
      omega
  rw [hc, hw] at h1
  have b1 := wd_lt (M - 1 - m) i
  have b2 := wd_lt m i
  omega
section
set_option maxRecDepth 10000
set_option maxHeartbeats 2000000
theorem rcompare_any (m n : Nat) (hm : m < M) (hn : n < M) (w : World) : Calls Tryz.prog 155 #[.agg (wn m), .agg (wn n)] w fun e w' => e = .returned (.int .i64 (cmpZ m n)) ∧ Below w.heap.size w w' := by
  obtain ⟨e1, e2⟩ := blk2x w (.cells (wn m) 50) (.cells (wn n) 50)
  have J0 : Hid (Nd ((w.alloc (.cells (wn m) 50)).alloc (.cells (wn n) 50)) w.heap.size 50 4 (wd m) ∧ Nd ((w.alloc (.cells (wn m) 50)).alloc (.cells (wn n) 50)) (w.heap.size + 1) 50 4 (wd n) ∧ Below w.heap.size w ((w.alloc (.cells (wn m) 50)).alloc (.cells (wn n) 50))) := ⟨Nd.of_heap e1, Nd.of_heap e2, below2x w _ _⟩
  have H4 : Hid (m / 18446744073709551616 ^ 4 = n / 18446744073709551616 ^ 4) := by
    unfold Hid
    rw [← M_eq, Nat.div_eq_of_lt hm, Nat.div_eq_of_lt hn]
  clear e1 e2 hm hn
  go_enter Tryz.func155, Tryz.ntmps155
  go_wp2_with (first | refine wpList_boxA rfl _ rfl (wn m) rfl ?_ | refine wpList_boxA rfl _ rfl (wn n) rfl ?_)
  generalize (w.alloc (.cells (wn m) 50)).alloc (.cells (wn n) 50) = W0 at *
  go_loopw [5] (fun d wr => ∃ i : Nat, i ≤ 4 ∧ d = .int .i64 ((i : Int) - 1) ∧ Hid (Nd wr w.heap.size 50 4 (wd m) ∧ Nd wr (w.heap.size + 1) 50 4 (wd n) ∧ Below w.heap.size w wr) ∧ Hid (m / 18446744073709551616 ^ i = n / 18446744073709551616 ^ i)) (fun d _ => (1 + intOf d).toNat)
  case atStart => exact ⟨4, by omega, rfl, J0, H4⟩
  case round =>
    clear J0 H4
    obtain ⟨i, hi, rfl, J, H⟩ := hrel
    rcases i with _ | i
    · have h0 : ¬ (0 : Int) ≤ ((0 : Nat) : Int) - 1 := by omega
      have hz : Hid (cmpZ m n = 0) := by
        have := H.out
        simp at this
        unfold Hid
        simp [cmpZ, this]
      go_wp2
      go_ret
      exact ⟨by rw [hz.out]; rfl, J.out.2.2⟩
    · have e1 : ((i + 1 : Nat) : Int) - 1 = i := by omega
      have hi4 : (i : Int) < 4 := by omega
      have b0 : (0 : Int) ≤ i := by omega
      have ca := J.out.1.cell (show i < 4 by omega)
      have cb := J.out.2.1.cell (show i < 4 by omega)
      have hlt4 := hide (show i ≤ 4 by omega)
      rw [e1]
      rcases Nat.lt_trichotomy (wd m i) (wd n i) with h | h | h
      · have hz : Hid (cmpZ m n = -1) := by
          have := cmp_lt H.out h
          unfold Hid
          simp [cmpZ, this]
        have t1 : ((wd m i : Nat) : Int) < ((wd n i : Nat) : Int) := by omega
        clear h hi
        generalize ((wd m i : Nat) : Int) = A at *
        generalize ((wd n i : Nat) : Int) = B at *
        go_upto_region 4 with fail
        go_quiet (fail)
        go_wp2
        go_ret
        exact ⟨by rw [hz.out]; rfl, below_drewN J.out.2.2 _⟩
      · have H1 := hide (cmp_eq H.out h)
        rw [h] at ca
        clear h hi
        generalize hB : ((wd n i : Nat) : Int) = B at *
        clear hB
        go_upto_region 4 with fail
        go_quiet (fail)
        have J1 : Hid (Nd (wr.drewN nq) w.heap.size 50 4 (wd m) ∧ Nd (wr.drewN nq) (w.heap.size + 1) 50 4 (wd n) ∧ Below w.heap.size w (wr.drewN nq)) := ⟨J.out.1, J.out.2.1, below_drewN J.out.2.2 _⟩
        have ca1 : (wr.drewN nq).cell? ⟨w.heap.size, i, none⟩ = some (.int .u64 B) := ca
        have cb1 : (wr.drewN nq).cell? ⟨w.heap.size + 1, i, none⟩ = some (.int .u64 B) := cb
        generalize wr.drewN nq = wr1 at *
        clear ca cb J
        go_upto_region 6 with fail
        go_quiet (fail)
        go_wp2
        exact ⟨⟨i, hlt4.out, rfl, ⟨J1.out.1, J1.out.2.1, below_drewN J1.out.2.2 _⟩, H1⟩, by simp [intOf]; omega⟩
      · have hz : Hid (cmpZ m n = 1) := by
          have := cmp_lt H.out.symm h
          unfold Hid
          rw [cmpZ, if_neg (by omega), if_neg (by omega)]
        have t1 : ¬ ((wd m i : Nat) : Int) < ((wd n i : Nat) : Int) := by omega
        have t2 : ((wd n i : Nat) : Int) < ((wd m i : Nat) : Int) := by omega
        clear h hi
        generalize ((wd m i : Nat) : Int) = A at *
        generalize ((wd n i : Nat) : Int) = B at *
        go_upto_region 4 with fail
        go_quiet (fail)
        have ca1 : (wr.drewN nq).cell? ⟨w.heap.size, i, none⟩ = some (.int .u64 A) := ca
        have cb1 : (wr.drewN nq).cell? ⟨w.heap.size + 1, i, none⟩ = some (.int .u64 B) := cb
        have B1 := hide (below_drewN J.out.2.2 nq)
        generalize wr.drewN nq = wr1 at *
        clear ca cb J
        go_upto_region 6 with fail
        go_quiet (fail)
        go_wp2
        go_ret
        exact ⟨by rw [hz.out]; rfl, below_drewN B1.out _⟩
end
end Go.Proofs.YtofddbjnncgmlaaGreatDoor
namespace Go.Proofs.YtofddbjnncgmlaaGreatDoor
theorem word_pow (j : Nat) : 18446744073709551616 ^ j = 2 ^ (64 * j) := by
  rw [Nat.pow_mul]
theorem wd_bit (n j t : Nat) : (wd n j).testBit t = (decide (t < 64) && n.testBit (64 * j + t)) := by
  unfold wd dg
  rw [word_pow, show (18446744073709551616 : Nat) = 2 ^ 64 from rfl, Nat.testBit_mod_two_pow, Nat.testBit_div_two_pow]
  congr 2
  omega
theorem wd_bit_at (n i : Nat) : (wd n (i / 64)).testBit (i % 64) = n.testBit i := by
  rw [wd_bit, show 64 * (i / 64) + i % 64 = i by omega, decide_eq_true (by omega), Bool.true_and]
theorem word_ext {x y : Nat} (h : ∀ t, x.testBit t = y.testBit t) : x = y := Nat.eq_of_testBit_eq h
theorem pow_bit (p t : Nat) : (2 ^ p).testBit t = decide (p = t) := by rw [Nat.testBit_two_pow]
/-- A bit put to a number that has it not. -/
theorem or_bit (a r : Nat) (h : a.testBit r = false) : a ||| 2 ^ r = a + 2 ^ r := by
  have hp := Nat.two_pow_pos r
  have h0 : a / 2 ^ r % 2 = 0 := by
    rw [Nat.testBit_eq_decide_div_mod_eq] at h
    simp at h
    omega
  have e : a = 2 ^ (r + 1) * (a / 2 ^ r / 2) + a % 2 ^ r := by
    have h1 := Nat.div_add_mod a (2 ^ r)
    have h2 := Nat.div_add_mod (a / 2 ^ r) 2
    rw [h0, Nat.add_zero] at h2
    rw [Nat.pow_succ, Nat.mul_assoc, h2]
    exact h1.symm
  have hl := Nat.mod_lt a hp
  generalize a % 2 ^ r = l at *
  generalize a / 2 ^ r / 2 = q at *
  have e1 : 2 ^ (r + 1) * q + l = 2 ^ (r + 1) * q ||| l := Nat.two_pow_add_eq_or_of_lt (by rw [Nat.pow_succ]; omega) q
  have e2 : 2 ^ (r + 1) * q + (2 ^ r * 1 + l) = 2 ^ (r + 1) * q ||| (2 ^ r * 1 + l) := Nat.two_pow_add_eq_or_of_lt (by rw [Nat.pow_succ]; omega) q
  have e3 : 2 ^ r * 1 + l = 2 ^ r * 1 ||| l := Nat.two_pow_add_eq_or_of_lt hl 1
  rw [e3, Nat.mul_one] at e2
  rw [e, e1, Nat.or_assoc, Nat.or_comm l, ← e2, ← e1]
  rw [Nat.mul_one] at e3
  omega
/-- The words of a number with a bit more. -/
theorem wd_or (x p i : Nat) : wd (x ||| 2 ^ p) i = if i = p / 64 then wd x i ||| 2 ^ (p % 64) else wd x i := by
  split
  · rename_i h
    apply word_ext
    intro t
    rw [wd_bit, Nat.testBit_or, Nat.testBit_or, wd_bit, pow_bit, pow_bit]
    by_cases ht : t < 64
    · by_cases e : p = 64 * i + t
      · simp [ht, e, show (64 * i + t) % 64 = t by omega]
      · have e' : ¬ p % 64 = t := by omega
        simp [ht, e, e']
    · have e' : ¬ p % 64 = t := by omega
      simp [ht, e']
  · rename_i h
    apply word_ext
    intro t
    rw [wd_bit, Nat.testBit_or, wd_bit, pow_bit]
    by_cases ht : t < 64
    · have e' : ¬ p = 64 * i + t := by omega
      simp [e']
    · simp [ht]
theorem wd_put (x p : Nat) (h : x.testBit p = false) : wd x (p / 64) ||| 2 ^ (p % 64) = wd x (p / 64) + 2 ^ (p % 64) ∧ wd x (p / 64) + 2 ^ (p % 64) < 18446744073709551616 ∧ ∀ i, wd (x + 2 ^ p) i = if i = p / 64 then wd x (p / 64) + 2 ^ (p % 64) else wd x i := by
  have e := or_bit x p h
  have e1 : wd x (p / 64) ||| 2 ^ (p % 64) = wd x (p / 64) + 2 ^ (p % 64) := or_bit _ _ (by rw [wd_bit_at]; exact h)
  refine ⟨e1, ?_, fun i => ?_⟩
  · rw [← e1]
    exact Nat.or_lt_two_pow (wd_lt x _) (Nat.pow_lt_pow_right (by decide) (Nat.mod_lt _ (by decide)))
  · rw [← e, wd_or]
    split
    · rename_i hi
      rw [hi, e1]
    · rfl
theorem small_bit (x p q : Nat) (h : x < 2 ^ p) (hq : p ≤ q) : x.testBit q = false := Nat.testBit_lt_two_pow (Nat.lt_of_lt_of_le h (Nat.pow_le_pow_right (by decide) hq))
/-- Words of a number times a power of 2. -/
theorem up_word (m n i : Nat) : wd (m * 2 ^ n) i = if i < n / 64 then 0 else wd m (i - n / 64) * 2 ^ (n % 64) % 18446744073709551616 ||| (if n / 64 < i then wd m (i - n / 64 - 1) / 2 ^ (64 - n % 64) else 0) := by
  apply word_ext
  intro t
  rw [wd_bit, Nat.testBit_mul_two_pow]
  split
  · rename_i h
    have : ¬ n ≤ 64 * i + t ∨ ¬ t < 64 := by omega
    rcases this with h | h <;> simp [h]
  · rename_i h
    rw [Nat.testBit_or, show (18446744073709551616 : Nat) = 2 ^ 64 from rfl, Nat.testBit_mod_two_pow, Nat.testBit_mul_two_pow, wd_bit]
    by_cases ht : t < 64
    · by_cases hp : t < n % 64
      · by_cases hi : n / 64 < i
        · rw [if_pos hi, Nat.testBit_div_two_pow, wd_bit]
          have h1 : ¬ n % 64 ≤ t := by omega
          have h2 : n ≤ 64 * i + t := by omega
          have h3 : 64 - n % 64 + t < 64 := by omega
          have h4 : 64 * (i - n / 64 - 1) + (64 - n % 64 + t) = 64 * i + t - n := by omega
          simp [ht, h1, h2, h3, h4, Nat.add_comm t]
        · rw [if_neg hi]
          have h1 : ¬ n % 64 ≤ t := by omega
          have h2 : ¬ n ≤ 64 * i + t := by omega
          simp [h1, h2]
      · have h1 : n % 64 ≤ t := by omega
        have h2 : n ≤ 64 * i + t := by omega
        have h3 : t - n % 64 < 64 := by omega
        have h4 : 64 * (i - n / 64) + (t - n % 64) = 64 * i + t - n := by omega
        have h5 : (if n / 64 < i then wd m (i - n / 64 - 1) / 2 ^ (64 - n % 64) else 0).testBit t = false := by
          split
          · rw [Nat.testBit_div_two_pow, wd_bit]
            have : ¬ t + (64 - n % 64) < 64 := by omega
            simp [this, Nat.add_comm]
          · simp
        rw [h5]
        simp [ht, h1, h2, h3, h4]
    · have h5 : (if n / 64 < i then wd m (i - n / 64 - 1) / 2 ^ (64 - n % 64) else 0).testBit t = false := by
        split
        · rw [Nat.testBit_div_two_pow, wd_bit]
          have : ¬ t + (64 - n % 64) < 64 := by omega
          simp [this, Nat.add_comm]
        · simp
      rw [h5]
      simp [ht]
/-- Words of a number over a power of 2. -/
theorem down_word (m n i : Nat) : wd (m / 2 ^ n) i = wd m (i + n / 64) / 2 ^ (n % 64) ||| wd m (i + n / 64 + 1) * 2 ^ (64 - n % 64) % 18446744073709551616 := by
  apply word_ext
  intro t
  rw [wd_bit, Nat.testBit_div_two_pow, Nat.testBit_or, Nat.testBit_div_two_pow, wd_bit, show (18446744073709551616 : Nat) = 2 ^ 64 from rfl, Nat.testBit_mod_two_pow, Nat.testBit_mul_two_pow, wd_bit]
  by_cases ht : t < 64
  · by_cases hp : n % 64 + t < 64
    · have h1 : ¬ 64 - n % 64 ≤ t := by omega
      have h2 : 64 * (i + n / 64) + (n % 64 + t) = n + (64 * i + t) := by omega
      simp [ht, hp, h1, h2, Nat.add_comm t]
      congr 1
      omega
    · have h1 : 64 - n % 64 ≤ t := by omega
      have h2 : 64 * (i + n / 64 + 1) + (t - (64 - n % 64)) = n + (64 * i + t) := by omega
      have h3 : t - (64 - n % 64) < 64 := by omega
      simp [ht, hp, h1, h2, h3, Nat.add_comm t]
      congr 1
      omega
  · have h1 : ¬ n % 64 + t < 64 := by omega
    simp [ht, h1, Nat.add_comm t]
end Go.Proofs.YtofddbjnncgmlaaGreatDoor
namespace Go.Proofs.YtofddbjnncgmlaaGreatDoor
open Go.RowKit
open Go.Deep
theorem bit_word (n i : Nat) : (bits .and .u64 (((wd n (i / 64) : Nat) : Int) / 2 ^ (i % 64)) 1 == 1) = n.testBit i := by
  have e : ((wd n (i / 64) : Nat) : Int) / 2 ^ (i % 64) = ((wd n (i / 64) / 2 ^ (i % 64) : Nat) : Int) := by simp
  have hlt : wd n (i / 64) / 2 ^ (i % 64) < 18446744073709551616 := Nat.lt_of_le_of_lt (Nat.div_le_self _ _) (wd_lt _ _)
  have h := u64_and_nat (wd n (i / 64) / 2 ^ (i % 64)) 1 hlt (by decide)
  rw [Nat.and_one_is_mod] at h
  rw [e, show (1 : Int) = ((1 : Nat) : Int) from rfl, h, ← wd_bit_at n i, Nat.testBit_eq_decide_div_mod_eq]
  rw [Bool.eq_iff_iff]
  simp
  omega
section
set_option maxRecDepth 10000
set_option maxHeartbeats 2000000
end
end Go.Proofs.YtofddbjnncgmlaaGreatDoor
namespace Go.Proofs.YtofddbjnncgmlaaGreatDoor
open Go.RowKit
open Go.Deep
theorem wd_top (m i : Nat) (h : m < 18446744073709551616 ^ (i + 1)) : wd m i = m / 18446744073709551616 ^ i := by
  unfold wd dg
  apply Nat.mod_eq_of_lt
  rw [Nat.div_lt_iff_lt_mul (Nat.pow_pos (by decide)), ← Nat.pow_succ']
  exact h
theorem bits_word (m i : Nat) (h : m < 18446744073709551616 ^ (i + 1)) (h0 : wd m i ≠ 0) : bl m = i * 64 + bl (wd m i) := by
  rw [wd_top m i h] at h0 ⊢
  rw [word_pow] at *
  have : 2 ^ (64 * i) ≤ m := by
    rcases Nat.lt_or_ge m (2 ^ (64 * i)) with h' | h'
    · exact absurd (Nat.div_eq_of_lt h') h0
    · exact h'
  rw [bl_shift m (64 * i) this, Nat.mul_comm]
theorem bits_less (m i : Nat) (h : m < 18446744073709551616 ^ (i + 1)) (h0 : wd m i = 0) : m < 18446744073709551616 ^ i := by
  rw [wd_top m i h] at h0
  exact (Nat.div_eq_zero_iff_lt (Nat.pow_pos (by decide))).1 h0
theorem bit_top (m n : Nat) (h : m < 2 ^ (n + 1)) : (m.testBit n = true → bl m = n + 1) ∧ (m.testBit n = false → m < 2 ^ n) := by
  have hp := Nat.two_pow_pos n
  rw [Nat.testBit_eq_decide_div_mod_eq]
  have hd : m / 2 ^ n < 2 := by
    rw [Nat.div_lt_iff_lt_mul hp, ← Nat.pow_succ']
    exact h
  constructor
  · intro e
    have e' : m / 2 ^ n % 2 = 1 := by simpa using e
    refine bl_unique m n ?_ h
    rcases Nat.lt_or_ge m (2 ^ n) with h' | h'
    · rw [Nat.div_eq_of_lt h'] at e'
      omega
    · exact h'
  · intro e
    have e' : ¬ m / 2 ^ n % 2 = 1 := by simpa using e
    refine (Nat.div_eq_zero_iff_lt hp).1 ?_
    generalize m / 2 ^ n = d at *
    omega
section
set_option maxRecDepth 10000
set_option maxHeartbeats 2000000
theorem bits_any (m : Nat) (hm : m < M) (w : World) : Calls Tryz.prog 332 #[.agg (wn m)] w fun e w' => e = .returned (.int .i64 ((bl m : Nat) : Int)) ∧ Below w.heap.size w w' := by
  have hA : Hid (Nd (w.alloc (.cells (wn m) 51)) w.heap.size 51 4 (wd m)) := nd_alloc w 51 m
  have BB := hide ((Below.refl w.heap.size w).alloc (Nat.le_refl _) (.cells (wn m) 51))
  have H4 : Hid (m < 18446744073709551616 ^ 4) := by rw [M_eq] at hm; exact hm
  clear hm
  go_enter Tryz.func332, Tryz.ntmps332
  go_wp2_with (refine wpList_boxA rfl _ rfl (wn m) rfl ?_)
  generalize w.alloc (.cells (wn m) 51) = W0 at *
  go_loopw [3] (fun d wr => ∃ i : Nat, i ≤ 4 ∧ d = .int .i64 ((i : Int) - 1) ∧ wr = W0 ∧ Hid (m < 18446744073709551616 ^ i)) (fun d _ => (1 + intOf d).toNat)
  case atStart => exact ⟨4, by omega, rfl, rfl, H4⟩
  case round =>
    obtain ⟨i, hi, rfl, hwr, H⟩ := hrel
    subst wr
    rcases i with _ | i
    · have h0 : ¬ (0 : Int) ≤ ((0 : Nat) : Int) - 1 := by omega
      have hz : m = 0 := by have := H.out; rw [Nat.pow_zero] at this; omega
      have hb : Hid (bl m = 0) := by unfold Hid; rw [hz, bl_zero]
      clear hz
      go_wp2
      go_ret
      exact ⟨by rw [hb.out]; rfl, BB.out⟩
    · have e1 : ((i + 1 : Nat) : Int) - 1 = i := by omega
      have hi4 : (i : Int) < 4 := by omega
      have b0 : (0 : Int) ≤ i := by omega
      have hc := hA.out.cell (show i < 4 by omega)
      rw [e1]
      by_cases h0 : wd m i = 0
      · have H1 := hide (bits_less m i H.out h0)
        rw [h0] at hc
        clear h0
        go_wp2
        exact ⟨⟨i, by omega, rfl, trivial, H1⟩, by simp [intOf]; omega⟩
      · have hb := hide (bits_word m i H.out h0)
        have hne : (((wd m i : Nat) : Int) != 0) = true := by simp; exact h0
        have hn0 : ((wd m i : Nat) : Int) ≠ 0 := by omega
        have HL := hide fun W => len64_int ((wd m i : Nat) : Int) (by omega) (by have := wd_lt m i; omega) W
        rw [Int.toNat_natCast] at HL
        have hl : bl (wd m i) ≤ 64 := bl_le_of _ 64 (wd_lt m i)
        have w1 : IntKind.i64.wrap ((i : Int) * 64) = i * 64 := wrapI _ (by omega) (by omega)
        have w2 : IntKind.i64.wrap ((i : Int) * 64 + ((bl (wd m i) : Nat) : Int)) = ((bl m : Nat) : Int) := by
          rw [wrapI _ (by omega) (by omega), hb.out]
          omega
        clear h0
        generalize bl (wd m i) = L at *
        generalize hX : ((wd m i : Nat) : Int) = X at *
        clear hX
        go_wp2_with (go_at_call 313; refine (HL.out _).mono ?_; rintro e w3 ⟨rfl, hw3⟩; subst w3)
        go_ret
        exact ⟨rfl, BB.out⟩
end
end Go.Proofs.YtofddbjnncgmlaaGreatDoor
