/- The mathematics of bits and shifts. The contracts of wide.Bit, Bits, Not, and the document's Bit, Bits, Not, Compare. The contracts of wide.Bits, the document's Bits, Not, Compare, and wide.Not. The contracts of wide.shortShift, up and down. The contracts of the document's Right and Left. The contracts of wide.withBit and the document's Not. -/
import Derived.Test.YtofddbjnncgmlabGreatDoorX13
import Derived.Test.YtofddbjnncgmlabGreatDoorX14
namespace Go.Proofs.YtofddbjnncgmlabGreatDoor
theorem word_pow (j : Nat) : 18446744073709551616 ^ j = 2 ^ (64 * j) := by
  rw [Nat.pow_mul]
theorem wd_bit (n j t : Nat) : (wd n j).testBit t = (decide (t < 64) && n.testBit (64 * j + t)) := by
  unfold wd dg
  rw [word_pow, show (18446744073709551616 : Nat) = 2 ^ 64 from rfl, Nat.testBit_mod_two_pow, Nat.testBit_div_two_pow]
  congr 2
  omega
theorem wd_bit_at (n i : Nat) : (wd n (i / 64)).testBit (i % 64) = n.testBit i := by
  rw [wd_bit, show 64 * (i / 64) + i % 64 = i by omega, decide_eq_true (by omega), Bool.true_and]
theorem word_ext {x y : Nat} (h : ∀ t, x.testBit t = y.testBit t) : x = y := Nat.eq_of_testBit_eq h
theorem pow_bit (p t : Nat) : (2 ^ p).testBit t = decide (p = t) := by rw [Nat.testBit_two_pow]
/-- A bit put to a number that has it not. -/
theorem or_bit (a r : Nat) (h : a.testBit r = false) : a ||| 2 ^ r = a + 2 ^ r := by
  have hp := Nat.two_pow_pos r
  have h0 : a / 2 ^ r % 2 = 0 := by
    rw [Nat.testBit_eq_decide_div_mod_eq] at h
    simp at h
    omega
  have e : a = 2 ^ (r + 1) * (a / 2 ^ r / 2) + a % 2 ^ r := by
    have h1 := Nat.div_add_mod a (2 ^ r)
    have h2 := Nat.div_add_mod (a / 2 ^ r) 2
    rw [h0, Nat.add_zero] at h2
    rw [Nat.pow_succ, Nat.mul_assoc, h2]
    exact h1.symm
  have hl := Nat.mod_lt a hp
  generalize a % 2 ^ r = l at *
  generalize a / 2 ^ r / 2 = q at *
  have e1 : 2 ^ (r + 1) * q + l = 2 ^ (r + 1) * q ||| l := Nat.two_pow_add_eq_or_of_lt (by rw [Nat.pow_succ]; omega) q
  have e2 : 2 ^ (r + 1) * q + (2 ^ r * 1 + l) = 2 ^ (r + 1) * q ||| (2 ^ r * 1 + l) := Nat.two_pow_add_eq_or_of_lt (by rw [Nat.pow_succ]; omega) q
  have e3 : 2 ^ r * 1 + l = 2 ^ r * 1 ||| l := Nat.two_pow_add_eq_or_of_lt hl 1
  rw [e3, Nat.mul_one] at e2
  rw [e, e1, Nat.or_assoc, Nat.or_comm l, ← e2, ← e1]
  rw [Nat.mul_one] at e3
  omega
/-- The words of a number with a bit more. -/
theorem wd_or (x p i : Nat) : wd (x ||| 2 ^ p) i = if i = p / 64 then wd x i ||| 2 ^ (p % 64) else wd x i := by
  split
  · rename_i h
    apply word_ext
    intro t
    rw [wd_bit, Nat.testBit_or, Nat.testBit_or, wd_bit, pow_bit, pow_bit]
    by_cases ht : t < 64
    · by_cases e : p = 64 * i + t
      · simp [ht, e, show (64 * i + t) % 64 = t by omega]
      · have e' : ¬ p % 64 = t := by omega
        simp [ht, e, e']
    · have e' : ¬ p % 64 = t := by omega
      simp [ht, e']
  · rename_i h
    apply word_ext
    intro t
    rw [wd_bit, Nat.testBit_or, wd_bit, pow_bit]
    by_cases ht : t < 64
    · have e' : ¬ p = 64 * i + t := by omega
      simp [e']
    · simp [ht]
theorem wd_put (x p : Nat) (h : x.testBit p = false) : wd x (p / 64) ||| 2 ^ (p % 64) = wd x (p / 64) + 2 ^ (p % 64) ∧ wd x (p / 64) + 2 ^ (p % 64) < 18446744073709551616 ∧ ∀ i, wd (x + 2 ^ p) i = if i = p / 64 then wd x (p / 64) + 2 ^ (p % 64) else wd x i := by
  have e := or_bit x p h
  have e1 : wd x (p / 64) ||| 2 ^ (p % 64) = wd x (p / 64) + 2 ^ (p % 64) := or_bit _ _ (by rw [wd_bit_at]; exact h)
  refine ⟨e1, ?_, fun i => ?_⟩
  · rw [← e1]
    exact Nat.or_lt_two_pow (wd_lt x _) (Nat.pow_lt_pow_right (by decide) (Nat.mod_lt _ (by decide)))
  · rw [← e, wd_or]
    split
    · rename_i hi
      rw [hi, e1]
    · rfl
theorem small_bit (x p q : Nat) (h : x < 2 ^ p) (hq : p ≤ q) : x.testBit q = false := Nat.testBit_lt_two_pow (Nat.lt_of_lt_of_le h (Nat.pow_le_pow_right (by decide) hq))
/-- Words of a number times a power of 2. -/
theorem up_word (m n i : Nat) : wd (m * 2 ^ n) i = if i < n / 64 then 0 else wd m (i - n / 64) * 2 ^ (n % 64) % 18446744073709551616 ||| (if n / 64 < i then wd m (i - n / 64 - 1) / 2 ^ (64 - n % 64) else 0) := by
  apply word_ext
  intro t
  rw [wd_bit, Nat.testBit_mul_two_pow]
  split
  · rename_i h
    have : ¬ n ≤ 64 * i + t ∨ ¬ t < 64 := by omega
    rcases this with h | h <;> simp [h]
  · rename_i h
    rw [Nat.testBit_or, show (18446744073709551616 : Nat) = 2 ^ 64 from rfl, Nat.testBit_mod_two_pow, Nat.testBit_mul_two_pow, wd_bit]
    by_cases ht : t < 64
    · by_cases hp : t < n % 64
      · by_cases hi : n / 64 < i
        · rw [if_pos hi, Nat.testBit_div_two_pow, wd_bit]
          have h1 : ¬ n % 64 ≤ t := by omega
          have h2 : n ≤ 64 * i + t := by omega
          have h3 : 64 - n % 64 + t < 64 := by omega
          have h4 : 64 * (i - n / 64 - 1) + (64 - n % 64 + t) = 64 * i + t - n := by omega
          simp [ht, h1, h2, h3, h4, Nat.add_comm t]
        · rw [if_neg hi]
          have h1 : ¬ n % 64 ≤ t := by omega
          have h2 : ¬ n ≤ 64 * i + t := by omega
          simp [h1, h2]
      · have h1 : n % 64 ≤ t := by omega
        have h2 : n ≤ 64 * i + t := by omega
        have h3 : t - n % 64 < 64 := by omega
        have h4 : 64 * (i - n / 64) + (t - n % 64) = 64 * i + t - n := by omega
        have h5 : (if n / 64 < i then wd m (i - n / 64 - 1) / 2 ^ (64 - n % 64) else 0).testBit t = false := by
          split
          · rw [Nat.testBit_div_two_pow, wd_bit]
            have : ¬ t + (64 - n % 64) < 64 := by omega
            simp [this, Nat.add_comm]
          · simp
        rw [h5]
        simp [ht, h1, h2, h3, h4]
    · have h5 : (if n / 64 < i then wd m (i - n / 64 - 1) / 2 ^ (64 - n % 64) else 0).testBit t = false := by
        split
        · rw [Nat.testBit_div_two_pow, wd_bit]
          have : ¬ t + (64 - n % 64) < 64 := by omega
          simp [this, Nat.add_comm]
        · simp
      rw [h5]
      simp [ht]
/-- Words of a number over a power of 2. -/
theorem down_word (m n i : Nat) : wd (m / 2 ^ n) i = wd m (i + n / 64) / 2 ^ (n % 64) ||| wd m (i + n / 64 + 1) * 2 ^ (64 - n % 64) % 18446744073709551616 := by
  apply word_ext
  intro t
  rw [wd_bit, Nat.testBit_div_two_pow, Nat.testBit_or, Nat.testBit_div_two_pow, wd_bit, show (18446744073709551616 : Nat) = 2 ^ 64 from rfl, Nat.testBit_mod_two_pow, Nat.testBit_mul_two_pow, wd_bit]
  by_cases ht : t < 64
  · by_cases hp : n % 64 + t < 64
    · have h1 : ¬ 64 - n % 64 ≤ t := by omega
      have h2 : 64 * (i + n / 64) + (n % 64 + t) = n + (64 * i + t) := by omega
      simp [ht, hp, h1, h2, Nat.add_comm t]
      congr 1
      omega
    · have h1 : 64 - n % 64 ≤ t := by omega
      have h2 : 64 * (i + n / 64 + 1) + (t - (64 - n % 64)) = n + (64 * i + t) := by omega
      have h3 : t - (64 - n % 64) < 64 := by omega
      simp [ht, hp, h1, h2, h3, Nat.add_comm t]
      congr 1
      omega
  · have h1 : ¬ n % 64 + t < 64 := by omega
    simp [ht, h1, Nat.add_comm t]
end Go.Proofs.YtofddbjnncgmlabGreatDoor
namespace Go.Proofs.YtofddbjnncgmlabGreatDoor
open Go.RowKit
open Go.Deep
theorem bit_word (n i : Nat) : (bits .and .u64 (((wd n (i / 64) : Nat) : Int) / 2 ^ (i % 64)) 1 == 1) = n.testBit i := by
  have e : ((wd n (i / 64) : Nat) : Int) / 2 ^ (i % 64) = ((wd n (i / 64) / 2 ^ (i % 64) : Nat) : Int) := by simp
  have hlt : wd n (i / 64) / 2 ^ (i % 64) < 18446744073709551616 := Nat.lt_of_le_of_lt (Nat.div_le_self _ _) (wd_lt _ _)
  have h := u64_and_nat (wd n (i / 64) / 2 ^ (i % 64)) 1 hlt (by decide)
  rw [Nat.and_one_is_mod] at h
  rw [e, show (1 : Int) = ((1 : Nat) : Int) from rfl, h, ← wd_bit_at n i, Nat.testBit_eq_decide_div_mod_eq]
  rw [Bool.eq_iff_iff]
  simp
  omega
section
set_option maxRecDepth 10000
set_option maxHeartbeats 2000000
end
end Go.Proofs.YtofddbjnncgmlabGreatDoor
namespace Go.Proofs.YtofddbjnncgmlabGreatDoor
open Go.RowKit
open Go.Deep
theorem wd_top (m i : Nat) (h : m < 18446744073709551616 ^ (i + 1)) : wd m i = m / 18446744073709551616 ^ i := by
  unfold wd dg
  apply Nat.mod_eq_of_lt
  rw [Nat.div_lt_iff_lt_mul (Nat.pow_pos (by decide)), ← Nat.pow_succ']
  exact h
theorem bits_word (m i : Nat) (h : m < 18446744073709551616 ^ (i + 1)) (h0 : wd m i ≠ 0) : bl m = i * 64 + bl (wd m i) := by
  rw [wd_top m i h] at h0 ⊢
  rw [word_pow] at *
  have : 2 ^ (64 * i) ≤ m := by
    rcases Nat.lt_or_ge m (2 ^ (64 * i)) with h' | h'
    · exact absurd (Nat.div_eq_of_lt h') h0
    · exact h'
  rw [bl_shift m (64 * i) this, Nat.mul_comm]
theorem bits_less (m i : Nat) (h : m < 18446744073709551616 ^ (i + 1)) (h0 : wd m i = 0) : m < 18446744073709551616 ^ i := by
  rw [wd_top m i h] at h0
  exact (Nat.div_eq_zero_iff_lt (Nat.pow_pos (by decide))).1 h0
theorem bit_top (m n : Nat) (h : m < 2 ^ (n + 1)) : (m.testBit n = true → bl m = n + 1) ∧ (m.testBit n = false → m < 2 ^ n) := by
  have hp := Nat.two_pow_pos n
  rw [Nat.testBit_eq_decide_div_mod_eq]
  have hd : m / 2 ^ n < 2 := by
    rw [Nat.div_lt_iff_lt_mul hp, ← Nat.pow_succ']
    exact h
  constructor
  · intro e
    have e' : m / 2 ^ n % 2 = 1 := by simpa using e
    refine bl_unique m n ?_ h
    rcases Nat.lt_or_ge m (2 ^ n) with h' | h'
    · rw [Nat.div_eq_of_lt h'] at e'
      omega
    · exact h'
  · intro e
    have e' : ¬ m / 2 ^ n % 2 = 1 := by simpa using e
    refine (Nat.div_eq_zero_iff_lt hp).1 ?_
    generalize m / 2 ^ n = d at *
    omega
section
set_option maxRecDepth 10000
set_option maxHeartbeats 2000000
end
end Go.Proofs.YtofddbjnncgmlabGreatDoor
namespace Go.Proofs.YtofddbjnncgmlabGreatDoor
open Go.RowKit
open Go.Deep
/-- A shift cut to one of at most 256. -/
def sh (n : Int) : Int := if n < -256 then -256 else if 256 < n then 256 else n
theorem wd_none (m k : Nat) (hm : m < M) (h : 4 ≤ k) : wd m k = 0 := by
  unfold wd dg
  rw [Nat.div_eq_of_lt, Nat.zero_mod]
  rw [M_eq] at hm
  exact Nat.lt_of_lt_of_le hm (Nat.pow_le_pow_right (by decide) h)
/-- A number, an answer's place, and a row. -/
structure Up (w W : World) (t : TypeId) (m : Nat) (f : Nat → Nat) : Prop where
  a : Nd W w.heap.size t 4 (wd m)
  r : W.heap[w.heap.size + 1]? = some (.cells (wn 0) t (0, 0))
  o : Nd W (w.heap.size + 1 + 1) t 4 f
  bel : Below w.heap.size w W
theorem Up.start (w : World) (t : TypeId) (m : Nat) : Up w (((w.alloc (.cells (wn m) t)).alloc (.cells (wn 0) t)).alloc (.cells (wn 0) t)) t m (wd 0) := by
  obtain ⟨e1, e2, e3⟩ := blk3 w (.cells (wn m) t) (.cells (wn 0) t) (.cells (wn 0) t)
  exact ⟨Nd.of_heap e1, e2, Nd.of_heap e3, below3 w _ _ _⟩
section
variable {w W W' : World} {t : TypeId} {m : Nat} {f : Nat → Nat}
theorem Up.set (j : Up w W t m f) (i x : Nat) : Up w (W.setCell ⟨w.heap.size + 1 + 1, i, none⟩ (.int .u64 ((x : Nat) : Int))) t m (fun k => if k = i then x else f k) :=
  ⟨j.a.other (by omega) _ _, (Below.heap_setCell _ _ _ _ (by simp)).trans j.r, j.o.set i x, j.bel.setCell (by simp; omega) _⟩
theorem Up.drew (j : Up w W t m f) : Up w W.drew t m f := ⟨j.a, j.r, j.o, j.bel.drew⟩
theorem Up.congr (j : Up w W t m f) {f' : Nat → Nat} (e : ∀ i, i < 4 → f i = f' i) : Up w W t m f' := ⟨j.a, j.r, j.o.congr e, j.bel⟩
theorem Up.next (j : Up w W t m f) (h : Below W.heap.size W W') : Up w W' t m f := ⟨j.a.below h, (h.block _ (lt_heap j.r)).trans j.r, j.o.below h, below_next j.bel h⟩
end
theorem up_zero (m n j : Nat) (_ : j < 4) : wd 0 j = wf (m * 2 ^ n) (n / 64) j := by
  unfold wf
  split
  · rename_i h
    rw [up_word, if_pos h, wd, dg_zero]
  · rw [wd, dg_zero]
theorem or_wrap (a s b : Nat) (hb : b < 18446744073709551616) : bits .or .u64 ((a * 2 ^ s % 18446744073709551616 : Nat) : Int) (b : Int) = ((a * 2 ^ s % 18446744073709551616 ||| b : Nat) : Int) := u64_or_nat _ _ (Nat.mod_lt _ (by decide)) hb
theorem shl_word (a s : Nat) : IntKind.u64.wrap ((a : Int) * 2 ^ s) = ((a * 2 ^ s % 18446744073709551616 : Nat) : Int) := low_word a s
theorem shr_word (a s : Nat) : (a : Int) / 2 ^ s = ((a / 2 ^ s : Nat) : Int) := by simp
/-- Words of a number that is moved down, behind the words up to i. -/
def dnf (m n i j : Nat) : Nat := if j + n / 64 + 1 < i then wd (m / 2 ^ n) j else if j + n / 64 + 1 = i then wd m (j + n / 64) / 2 ^ (n % 64) else 0
theorem dn_zero (m n j : Nat) (_ : j < 4) : wd 0 j = dnf m n (n / 64) j := by
  rw [dnf, if_neg (by omega), if_neg (by omega), wd, dg_zero]
theorem dn_four (m n : Nat) (hm : m < M) (j : Nat) (_ : j < 4) : dnf m n 4 j = wd (m / 2 ^ n) j := by
  unfold dnf
  split
  · rfl
  · rw [down_word, wd_none m (j + n / 64 + 1) hm (by omega)]
    split
    · simp
    · rw [wd_none m (j + n / 64) hm (by omega)]
      simp
theorem dn_first (m n i j : Nat) (h : n / 64 ≤ i) (_ : i < 4) : (if j = i - n / 64 then wd m i / 2 ^ (n % 64) else dnf m n i j) = dnf m n (i + 1) j ∨ n / 64 < i := by
  rcases Nat.lt_or_ge (n / 64) i with h' | h'
  · exact .inr h'
  · left
    have e : i = n / 64 := by omega
    by_cases hj : j = i - n / 64
    · rw [if_pos hj, dnf, if_neg (show ¬ j + n / 64 + 1 < i + 1 by omega), if_pos (by omega), show j + n / 64 = i by omega]
    · rw [if_neg hj, dnf, dnf, if_neg (show ¬ j + n / 64 + 1 < i by omega), if_neg (show ¬ j + n / 64 + 1 = i by omega), if_neg (show ¬ j + n / 64 + 1 < i + 1 by omega), if_neg (by omega)]
theorem dn_second (m n k i j : Nat) (h : k + n / 64 + 1 = i) : (if j = k then wd m (k + n / 64) / 2 ^ (n % 64) ||| wd m i * 2 ^ (64 - n % 64) % 18446744073709551616 else if j = k + 1 then wd m i / 2 ^ (n % 64) else dnf m n i j) = dnf m n (i + 1) j := by
  by_cases h1 : j = k
  · rw [if_pos h1, dnf, if_pos (by omega), down_word, h1, h]
  · rw [if_neg h1]
    by_cases h2 : j = k + 1
    · rw [if_pos h2, dnf, if_neg (by omega), if_pos (by omega), show j + n / 64 = i by omega]
    · rw [if_neg h2, dnf, dnf]
      by_cases h3 : j + n / 64 + 1 < i
      · rw [if_pos h3, if_pos (by omega)]
      · rw [if_neg h3, if_neg (by omega), if_neg (by omega), if_neg (by omega)]
section
set_option maxRecDepth 10000
set_option maxHeartbeats 2000000
theorem short_any (n : Int) (w : World) : Calls Tryz.prog 185 #[.int .i64 n] w fun e w' => e = .returned (.int .i64 (sh n)) ∧ w' = w := by
  have h : n ≤ -256 ∨ 256 < n ∨ (-256 < n ∧ n ≤ 256) := by omega
  rcases h with h | h | h
  · have e : sh n = -256 := by
      unfold sh
      split
      · rfl
      · rw [if_neg (by omega)]
        omega
    have m1 : min n 256 = n := by omega
    have m2 : max (-256) n = -256 := by omega
    rw [e]
    clear e
    go_enter Tryz.func185, Tryz.ntmps185
    go_wp2
    go_ret
    exact ⟨rfl, rfl⟩
  · have e : sh n = 256 := by rw [sh, if_neg (by omega), if_pos h]
    have m1 : min n 256 = 256 := by omega
    rw [e]
    clear e
    go_enter Tryz.func185, Tryz.ntmps185
    go_wp2
    go_ret
    exact ⟨rfl, rfl⟩
  · have e : sh n = n := by rw [sh, if_neg (by omega), if_neg (by omega)]
    have m1 : min n 256 = n := by omega
    have m2 : max (-256) n = n := by omega
    rw [e]
    clear e
    obtain ⟨h1, h2⟩ := h
    go_enter Tryz.func185, Tryz.ntmps185
    go_wp2
    go_ret
    exact ⟨rfl, rfl⟩
theorem up_any (m n : Nat) (hn : n ≤ 256) (w : World) : Calls Tryz.prog 187 #[.agg (wn m), .int .i64 (n : Int)] w fun e w' => e = .returned (.agg (wn (m * 2 ^ n))) ∧ Below w.heap.size w w' := by
  have J0 := hide ((Up.start w 232 m).congr (fun i hi => up_zero m n i hi))
  have HW : Hid (∀ i, wd (m * 2 ^ n) i = if i < n / 64 then 0 else wd m (i - n / 64) * 2 ^ (n % 64) % 18446744073709551616 ||| (if n / 64 < i then wd m (i - n / 64 - 1) / 2 ^ (64 - n % 64) else 0)) := fun i => up_word m n i
  have d1 : (n : Int) / 64 = ((n / 64 : Nat) : Int) := by omega
  have d2 : (n : Int) % 64 = ((n % 64 : Nat) : Int) := by omega
  have hq : n / 64 ≤ 4 := by omega
  have hr : n % 64 < 64 := by omega
  generalize m * 2 ^ n = U at *
  generalize n / 64 = q at *
  generalize n % 64 = r at *
  have r0 : (0 : Int) ≤ r := by omega
  have r1 : (r : Int) ≤ 64 := by omega
  have r2 : IntKind.i64.wrap (64 - (r : Int)) = 64 - r := wrapI _ (by omega) (by omega)
  have r3 : (64 - (r : Int)).toNat = 64 - r := by omega
  have r4 : (0 : Int) ≤ 64 - r := by omega
  have r5 : (64 - (r : Int)) ≤ 64 := by omega
  have n0 : (0 : Int) ≤ n := by omega
  clear hn
  go_enter Tryz.func187, Tryz.ntmps187
  go_wp2_with (first | refine wpList_boxA rfl _ rfl (wn m) rfl ?_ | refine wpList_allocA AW rfl rfl ?_)
  generalize ((w.alloc (.cells (wn m) 232)).alloc (.cells (wn 0) 232)).alloc (.cells (wn 0) 232) = W0 at *
  go_loopw [8] (fun d wr => ∃ i : Nat, q ≤ i ∧ i ≤ 4 ∧ d = .int .i64 i ∧ Hid (Up w wr 232 m (wf U i))) (fun d _ => (4 - intOf d).toNat)
  case atStart => exact ⟨q, Nat.le_refl _, hq, rfl, J0⟩
  case round =>
    clear J0
    obtain ⟨i, hqi, hi, rfl, J⟩ := hrel
    by_cases hlt : i < 4
    · have hi4 : (i : Int) < 4 := by omega
      have i0 : (0 : Int) ≤ i := by omega
      obtain ⟨d, hd⟩ : ∃ d, d = i - q := ⟨_, rfl⟩
      have s1 : IntKind.i64.wrap ((i : Int) - q) = d := by rw [wrapI _ (by omega) (by omega)]; omega
      have hd4 : (d : Int) < 4 := by omega
      have hd0 : (0 : Int) ≤ d := by omega
      have ca := J.out.a.cell (show d < 4 by omega)
      have co := J.out.o.cell hlt
      have fo := J.out.o.fz i
      have hx1 := shl_word (wd m d) r
      have hiw : IntKind.i64.wrap ((i : Int) + 1) = i + 1 := wrapI _ (by omega) (by omega)
      have HU := hide (HW.out i)
      rw [if_neg (show ¬ i < q by omega), ← hd] at HU
      obtain ⟨x1, hx⟩ : ∃ x, x = wd m d * 2 ^ r % 18446744073709551616 := ⟨_, rfl⟩
      rw [← hx] at hx1 HU
      have hx1l : x1 < 18446744073709551616 := by rw [hx]; exact Nat.mod_lt _ (by decide)
      by_cases hgt : q < i
      · have t1 : (q : Int) < i := by omega
        rw [if_pos hgt] at HU
        obtain ⟨k, hk⟩ : ∃ k, d = k + 1 := ⟨d - 1, by omega⟩
        have s2 : IntKind.i64.wrap ((d : Int) - 1) = k := by rw [wrapI _ (by omega) (by omega)]; omega
        rw [show d - 1 = k by omega] at HU
        have hx2 := shr_word (wd m k) (64 - r)
        have hx2l : wd m k / 2 ^ (64 - r) < 18446744073709551616 := Nat.lt_of_le_of_lt (Nat.div_le_self _ _) (wd_lt _ _)
        obtain ⟨x2, hxx⟩ : ∃ x, x = wd m k / 2 ^ (64 - r) := ⟨_, rfl⟩
        rw [← hxx] at HU hx2 hx2l
        have hor := u64_or_nat x1 x2 hx1l hx2l
        rw [← HU.out] at hor
        have hk4 : (k : Int) < 4 := by omega
        have hk0 : (0 : Int) ≤ k := by omega
        have KK := hide (show k < 4 by omega)
        have LL := hide hlt
        have QQ := hide (show q ≤ i + 1 by omega)
        clear hd hx hx1l hxx hx2l hk hgt hlt hqi hq hr hi
        go_upto_region 7 with fail
        have J1 := hide (J.out.set i x1)
        generalize wr.setCell ⟨w.heap.size + 1 + 1, i, none⟩ (.int .u64 (x1 : Int)) = W1 at *
        have ck := J1.out.a.cell KK.out
        have cq := J1.out.o.cell LL.out
        rw [if_pos rfl] at cq
        have fq := J1.out.o.fz i
        clear J ca co fo
        go_upto_region 8 with fail
        go_region
        go_wp2
        have L4 := LL.out
        exact ⟨⟨i + 1, QQ.out, by omega, by go_num, hide ((J1.out.drew.set i (wd U i)).congr (fun j _ => by rw [← wf_step U i j]; by_cases e : j = i <;> simp [e]))⟩, by simp [intOf]; omega⟩
      · have t1 : ¬ (q : Int) < i := by omega
        rw [if_neg hgt, Nat.or_zero] at HU
        have LL := hide hlt
        have QQ := hide (show q ≤ i + 1 by omega)
        clear hd hx hx1l hgt hlt hqi hq hr hi
        go_wp2
        have L4 := LL.out
        exact ⟨⟨i + 1, QQ.out, by omega, by go_num, hide ((J.out.set i x1).congr (fun j _ => by rw [← HU.out]; exact wf_step U i j))⟩, by simp [intOf]; omega⟩
    · have hke : i = 4 := by omega
      subst hke
      have H2 := (J.out.o.congr (wf_four U)).heap
      go_wp2_with (first | refine wpList_loadA AW rfl _ rfl _ rfl (wn U) (wn_size _) 232 H2 ?_ | refine wpList_storeA AW rfl _ _ rfl _ (wn U) (wn_size _) (wn_one _) rfl rfl (wn 0) (wn_size 0) 232 J.out.r ?_)
      exact bodyPost_ret (v := .agg (wn U)) (resA AW Tryz.results187 _ _ (w.heap.size + 1) 232 (wn U) (wn_size _) rfl (setRow_heap _ _ _ _ _ _ J.out.r)) rfl ⟨rfl, below_setRow J.out.bel (by omega) _⟩
theorem down_any (m n : Nat) (hm : m < M) (hn : n ≤ 256) (w : World) : Calls Tryz.prog 186 #[.agg (wn m), .int .i64 (n : Int)] w fun e w' => e = .returned (.agg (wn (m / 2 ^ n))) ∧ Below w.heap.size w w' := by
  have J0 := hide ((Up.start w 232 m).congr (fun i hi => dn_zero m n i hi))
  have HE : Hid (∀ i, i < 4 → dnf m n 4 i = wd (m / 2 ^ n) i) := fun i hi => dn_four m n hm i hi
  have HS : Hid (∀ i j, n / 64 ≤ i → i < 4 → (if j = i - n / 64 then wd m i / 2 ^ (n % 64) else dnf m n i j) = dnf m n (i + 1) j ∨ n / 64 < i) := fun i j h h4 => dn_first m n i j h h4
  have HT : Hid (∀ k i j, k + n / 64 + 1 = i → (if j = k then wd m (k + n / 64) / 2 ^ (n % 64) ||| wd m i * 2 ^ (64 - n % 64) % 18446744073709551616 else if j = k + 1 then wd m i / 2 ^ (n % 64) else dnf m n i j) = dnf m n (i + 1) j) := fun k i j h => dn_second m n k i j h
  have HC : Hid (∀ k i, k + n / 64 + 1 = i → dnf m n i k = wd m (k + n / 64) / 2 ^ (n % 64)) := fun k i h => by
    unfold Hid dnf at *
    rw [if_neg (by omega), if_pos h]
  have d1 : (n : Int) / 64 = ((n / 64 : Nat) : Int) := by omega
  have d2 : (n : Int) % 64 = ((n % 64 : Nat) : Int) := by omega
  have hq : n / 64 ≤ 4 := by omega
  have hr : n % 64 < 64 := by omega
  generalize m / 2 ^ n = U at *
  generalize dnf m n = F at *
  generalize n / 64 = q at *
  generalize n % 64 = r at *
  have r0 : (0 : Int) ≤ r := by omega
  have r1 : (r : Int) ≤ 64 := by omega
  have r2 : IntKind.i64.wrap (64 - (r : Int)) = 64 - r := wrapI _ (by omega) (by omega)
  have r3 : (64 - (r : Int)).toNat = 64 - r := by omega
  have r4 : (0 : Int) ≤ 64 - r := by omega
  have r5 : (64 - (r : Int)) ≤ 64 := by omega
  have n0 : (0 : Int) ≤ n := by omega
  clear hn
  go_enter Tryz.func186, Tryz.ntmps186
  go_wp2_with (first | refine wpList_boxA rfl _ rfl (wn m) rfl ?_ | refine wpList_allocA AW rfl rfl ?_)
  generalize ((w.alloc (.cells (wn m) 232)).alloc (.cells (wn 0) 232)).alloc (.cells (wn 0) 232) = W0 at *
  go_loopw [8] (fun d wr => ∃ i : Nat, q ≤ i ∧ i ≤ 4 ∧ d = .int .i64 i ∧ Hid (Up w wr 232 m (F i))) (fun d _ => (4 - intOf d).toNat)
  case atStart => exact ⟨q, Nat.le_refl _, hq, rfl, J0⟩
  case round =>
    clear J0
    obtain ⟨i, hqi, hi, rfl, J⟩ := hrel
    by_cases hlt : i < 4
    · have hi4 : (i : Int) < 4 := by omega
      have i0 : (0 : Int) ≤ i := by omega
      obtain ⟨d, hd⟩ : ∃ d, d = i - q := ⟨_, rfl⟩
      have s1 : IntKind.i64.wrap ((i : Int) - q) = d := by rw [wrapI _ (by omega) (by omega)]; omega
      have hd4 : (d : Int) < 4 := by omega
      have hd0 : (0 : Int) ≤ d := by omega
      have ca := J.out.a.cell hlt
      have co := J.out.o.cell (show d < 4 by omega)
      have fo := J.out.o.fz d
      have hx1 := shr_word (wd m i) r
      have hiw : IntKind.i64.wrap ((i : Int) + 1) = i + 1 := wrapI _ (by omega) (by omega)
      by_cases hgt : q < i
      · have t1 : (q : Int) < i := by omega
        obtain ⟨k, hk⟩ : ∃ k, d = k + 1 := ⟨d - 1, by omega⟩
        have s2 : IntKind.i64.wrap ((d : Int) - 1) = k := by rw [wrapI _ (by omega) (by omega)]; omega
        have hkq : k + q + 1 = i := by omega
        have hx2 := shl_word (wd m i) (64 - r)
        have hx2l : wd m i * 2 ^ (64 - r) % 18446744073709551616 < 18446744073709551616 := Nat.mod_lt _ (by decide)
        have hx3l : wd m (k + q) / 2 ^ r < 18446744073709551616 := Nat.lt_of_le_of_lt (Nat.div_le_self _ _) (wd_lt _ _)
        have hor := u64_or_nat _ _ hx3l hx2l
        have TT : Hid (∀ j, (if j = k then wd m (k + q) / 2 ^ r ||| wd m i * 2 ^ (64 - r) % 18446744073709551616 else if j = d then wd m i / 2 ^ r else F i j) = F (i + 1) j) := fun j => by rw [hk]; exact HT.out k i j hkq
        have CK := HC.out k i hkq
        have hkd : k ≠ d := by omega
        have KK := hide (And.intro (show k < 4 by omega) hkd)
        obtain ⟨x1, hxe1⟩ : ∃ x, x = wd m i / 2 ^ r := ⟨_, rfl⟩
        obtain ⟨x2, hxe2⟩ : ∃ x, x = wd m i * 2 ^ (64 - r) % 18446744073709551616 := ⟨_, rfl⟩
        obtain ⟨x3, hxe3⟩ : ∃ x, x = wd m (k + q) / 2 ^ r := ⟨_, rfl⟩
        rw [← hxe2, ← hxe3] at hor
        rw [← hxe1, ← hxe2, ← hxe3] at TT
        rw [← hxe1] at hx1
        rw [← hxe2] at hx2
        rw [← hxe3] at CK
        obtain ⟨x4, hxe4⟩ : ∃ x, x = x3 ||| x2 := ⟨_, rfl⟩
        rw [← hxe4] at hor TT
        have hk4 : (k : Int) < 4 := by omega
        have hk0 : (0 : Int) ≤ k := by omega
        have LL := hide hlt
        have QQ := hide (show q ≤ i + 1 by omega)
        have HCK := hide CK
        clear hd hx2l hx3l hk hgt hlt hqi hq hr hi hxe1 hxe2 hxe3 hxe4 hkq CK hkd
        go_upto_region 7 with fail
        have J1 := hide (J.out.set d x1)
        generalize wr.setCell ⟨w.heap.size + 1 + 1, d, none⟩ (.int .u64 (x1 : Int)) = W1 at *
        have ck := J1.out.a.cell LL.out
        have cq := J1.out.o.cell KK.out.1
        rw [if_neg KK.out.2, HCK.out] at cq
        have fq := J1.out.o.fz k
        clear J ca co fo
        go_upto_region 8 with fail
        go_region
        go_wp2
        have L4 := LL.out
        exact ⟨⟨i + 1, QQ.out, by omega, by go_num, hide ((J1.out.drew.set k x4).congr (fun j _ => TT.out j))⟩, by simp [intOf]; omega⟩
      · have t1 : ¬ (q : Int) < i := by omega
        have TT : Hid (∀ j, (if j = d then wd m i / 2 ^ r else F i j) = F (i + 1) j) := fun j => by
          rcases HS.out i j hqi hlt with h | h
          · rw [hd]; exact h
          · exact absurd h hgt
        obtain ⟨x1, hxe1⟩ : ∃ x, x = wd m i / 2 ^ r := ⟨_, rfl⟩
        rw [← hxe1] at hx1 TT
        have LL := hide hlt
        have QQ := hide (show q ≤ i + 1 by omega)
        clear hd hgt hlt hqi hq hr hi hxe1
        go_wp2
        have L4 := LL.out
        exact ⟨⟨i + 1, QQ.out, by omega, by go_num, hide ((J.out.set d x1).congr (fun j _ => TT.out j))⟩, by simp [intOf]; omega⟩
    · have hke : i = 4 := by omega
      subst hke
      have H2 := (J.out.o.congr HE.out).heap
      go_wp2_with (first | refine wpList_loadA AW rfl _ rfl _ rfl (wn U) (wn_size _) 232 H2 ?_ | refine wpList_storeA AW rfl _ _ rfl _ (wn U) (wn_size _) (wn_one _) rfl rfl (wn 0) (wn_size 0) 232 J.out.r ?_)
      exact bodyPost_ret (v := .agg (wn U)) (resA AW Tryz.results186 _ _ (w.heap.size + 1) 232 (wn U) (wn_size _) rfl (setRow_heap _ _ _ _ _ _ J.out.r)) rfl ⟨rfl, below_setRow J.out.bel (by omega) _⟩
end
end Go.Proofs.YtofddbjnncgmlabGreatDoor
namespace Go.Proofs.YtofddbjnncgmlabGreatDoor
open Go.RowKit
open Go.Deep
theorem mod_bit (X d : Nat) : X % 2 ^ (d + 1) = X % 2 ^ d + if X.testBit d then 2 ^ d else 0 := by
  rw [mod_next, dg, Nat.testBit_eq_decide_div_mod_eq]
  have h := Nat.mod_lt (X / 2 ^ d) (show 0 < 2 by decide)
  by_cases e : X / 2 ^ d % 2 = 1
  · simp [e]
  · have e' : X / 2 ^ d % 2 = 0 := by omega
    simp [e']
theorem put_word (O d : Nat) (h : O < 2 ^ d) : IntKind.u64.wrap (((wd O (d / 64) : Nat) : Int) + ((2 ^ (d % 64) : Nat) : Int)) = ((wd O (d / 64) + 2 ^ (d % 64) : Nat) : Int) := by
  have := (wd_put O d (small_bit O d d h (Nat.le_refl _))).2.1
  rw [← Int.natCast_add]
  generalize wd O (d / 64) + 2 ^ (d % 64) = p at *
  exact wrapu _ (by omega) (by omega)
theorem one_shl (r : Nat) (h : r < 64) : IntKind.u64.wrap ((2 : Int) ^ r) = ((2 ^ r : Nat) : Int) := by
  have h1 : 2 ^ r < 2 ^ 64 := Nat.pow_lt_pow_right (by decide) h
  rw [show ((2 : Int) ^ r) = ((2 ^ r : Nat) : Int) by simp]
  generalize 2 ^ r = p at *
  exact wrapu _ (by omega) (by omega)
section
set_option maxRecDepth 10000
set_option maxHeartbeats 2000000
end
/-- A number without its bits from i on, times a power of 2. -/
def ls (m n i : Nat) : Nat := m % 2 ^ i * 2 ^ n
theorem ls_zero (m n : Nat) : ls m n 0 = 0 := by simp [ls, Nat.mod_one]
theorem ls_end (m n : Nat) (hm : m < M) : ls m n 256 = m * 2 ^ n := by rw [ls, ← M_pow, Nat.mod_eq_of_lt hm]
theorem ls_step (m n i : Nat) : ls m n (i + 1) = ls m n i + if m.testBit i then 2 ^ (i + n) else 0 := by
  unfold ls
  rw [mod_bit, Nat.add_mul]
  congr 1
  split
  · rw [Nat.pow_add]
  · simp
theorem ls_lt (m n i : Nat) : ls m n i < 2 ^ (i + n) := by
  rw [ls, Nat.pow_add]
  exact Nat.mul_lt_mul_of_pos_right (Nat.mod_lt _ (Nat.two_pow_pos i)) (Nat.two_pow_pos n)
theorem ls_low (m n i : Nat) (h : i + n ≤ 256) : decide (M ≤ ls m n i) = false := by
  have h1 := ls_lt m n i
  have h2 : 2 ^ (i + n) ≤ 2 ^ 256 := Nat.pow_le_pow_right (by decide) h
  rw [← M_pow] at h2
  simp
  omega
theorem ls_high (m n i : Nat) (h : 256 ≤ i + n) (hb : m.testBit i = true) : decide (M ≤ ls m n (i + 1)) = true ∧ ∀ j, j < 4 → wd (ls m n i) j = wd (ls m n (i + 1)) j := by
  rw [ls_step, if_pos hb]
  have e : 2 ^ (i + n) = M * 2 ^ (i + n - 256) := by rw [M_pow, ← Nat.pow_add, show 256 + (i + n - 256) = i + n by omega]
  have hp := Nat.two_pow_pos (i + n - 256)
  have h1 : M * 1 ≤ M * 2 ^ (i + n - 256) := Nat.mul_le_mul_left _ hp
  rw [e]
  refine ⟨by simp; omega, fun j hj => ?_⟩
  rw [← wd_mod (_ + _) j hj, Nat.add_mul_mod_self_left, wd_mod _ j hj]
section
set_option maxRecDepth 10000
set_option maxHeartbeats 2000000
end
end Go.Proofs.YtofddbjnncgmlabGreatDoor
namespace Go.Proofs.YtofddbjnncgmlabGreatDoor
open Go.RowKit
open Go.Deep
theorem Bd.drew {w W : World} {t : TypeId} {f : Nat → Nat} (j : Bd w W t f) : Bd w W.drew t f := ⟨j.a, j.r, j.bel.drew⟩
section
set_option maxRecDepth 10000
set_option maxHeartbeats 2000000
/-- The first i words turned over, the others as they were. -/
def nwf (m i j : Nat) : Nat := if j < i then wd (M - 1 - m) j else wd m j
theorem nwf_step (m i j : Nat) : (if j = i then wd (M - 1 - m) i else nwf m i j) = nwf m (i + 1) j := by
  unfold nwf
  by_cases e : j = i
  · rw [if_pos e, if_pos (by omega), e]
  · rw [if_neg e]
    by_cases e2 : j < i
    · rw [if_pos e2, if_pos (by omega)]
    · rw [if_neg e2, if_neg (by omega)]
theorem nwf_at (m i : Nat) : nwf m i i = wd m i := by rw [nwf, if_neg (by omega)]
theorem nwf_four (m j : Nat) (h : j < 4) : nwf m 4 j = wd (M - 1 - m) j := by rw [nwf, if_pos h]
theorem nwf_zero (m j : Nat) (_ : j < 4) : wd m j = nwf m 0 j := by rw [nwf, if_neg (by omega)]
end
end Go.Proofs.YtofddbjnncgmlabGreatDoor
