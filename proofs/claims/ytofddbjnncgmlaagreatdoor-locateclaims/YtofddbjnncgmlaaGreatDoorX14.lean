/- The mathematics of the library's long division of two words by one. The contracts of the library's Mul64, Len64 and LeadingZeros64. The contract of the library's Div64. -/
import Derived.Test.YtofddbjnncgmlaaGreatDoorX12
import Derived.Test.YtofddbjnncgmlaaGreatDoorX13
import Derived.Deep.CutBlock
namespace Go.Proofs.YtofddbjnncgmlaaGreatDoor
/-- What is known in a loop that brings a guessed digit down: v = v1 * 2^32 + v0 divides u * 2^32 + x. -/
structure Gs (v1 v0 u x q r : Nat) : Prop where
  sum : q * v1 + r = u
  ge : (u * 4294967296 + x) / (v1 * 4294967296 + v0) ≤ q
  le : q ≤ 4294967297
  r : r < 4294967296
section
variable {v1 v0 u x q r : Nat}
theorem Gs.prod (h : Gs v1 v0 u x q r) : q * (v1 * 4294967296 + v0) + r * 4294967296 = u * 4294967296 + q * v0 := by
  rw [← h.sum, Nat.mul_add, Nat.add_mul, Nat.mul_assoc]
  omega
theorem Gs.start (h1 : 2147483648 ≤ v1) (h0 : v0 < 4294967296) (hv1 : v1 < 4294967296) (hu : u < v1 * 4294967296 + v0) (hx : x < 4294967296) : Gs v1 v0 u x (u / v1) (u % v1) := by
  have hp : 0 < v1 := by omega
  refine ⟨by rw [Nat.mul_comm]; exact Nat.div_add_mod u v1, ?_, ?_, ?_⟩
  · apply Nat.le_of_lt_succ
    rw [Nat.div_lt_iff_lt_mul (by omega)]
    have e := Nat.div_add_mod u v1
    have hm := Nat.mod_lt u hp
    have e2 : (u / v1 + 1) * (v1 * 4294967296 + v0) = (v1 * (u / v1) + v1) * 4294967296 + (u / v1 + 1) * v0 := by
      rw [Nat.mul_add, ← Nat.mul_assoc, Nat.add_mul (u / v1) 1 v1, Nat.one_mul, Nat.mul_comm (u / v1) v1]
    rw [Nat.succ_eq_add_one, e2]
    omega
  · have : u / v1 < 4294967298 := by
      rw [Nat.div_lt_iff_lt_mul hp]
      omega
    omega
  · have := Nat.mod_lt u hp
    omega
/-- The test passes: the guess is the digit. -/
theorem Gs.done (h : Gs v1 v0 u x q r) (h1 : 0 < v1 * 4294967296 + v0) (ht : q * v0 ≤ 4294967296 * r + x) : q = (u * 4294967296 + x) / (v1 * 4294967296 + v0) := by
  have hp := h.prod
  refine Nat.le_antisymm ?_ h.ge
  rw [Nat.le_div_iff_mul_le h1]
  omega
/-- The test fails: the guess is too great. -/
theorem Gs.down (h : Gs v1 v0 u x q r) (_ : 2147483648 ≤ v1) (hu : u < v1 * 4294967296 + v0) (hx : x < 4294967296) (ht : 4294967296 ≤ q ∨ 4294967296 * r + x < q * v0) : (u * 4294967296 + x) / (v1 * 4294967296 + v0) ≤ q - 1 ∧ 1 ≤ q ∧ (q - 1) * v1 + (r + v1) = u := by
  have hp := h.prod
  have hq : 1 ≤ q := by
    rcases ht with ht | ht
    · omega
    · rcases Nat.eq_zero_or_pos q with h0 | h0
      · subst h0
        omega
      · omega
  refine ⟨?_, hq, ?_⟩
  · have : (u * 4294967296 + x) / (v1 * 4294967296 + v0) < q := by
      rcases ht with ht | ht
      · refine Nat.lt_of_lt_of_le ?_ ht
        rw [Nat.div_lt_iff_lt_mul (by omega)]
        omega
      · rw [Nat.div_lt_iff_lt_mul (by omega)]
        omega
    omega
  · obtain ⟨k, rfl⟩ : ∃ k, q = k + 1 := ⟨q - 1, by omega⟩
    have := h.sum
    rw [Nat.add_mul] at this
    rw [Nat.add_sub_cancel]
    omega
theorem Gs.next (h : Gs v1 v0 u x q r) (h1 : 2147483648 ≤ v1) (hu : u < v1 * 4294967296 + v0) (hx : x < 4294967296) (ht : 4294967296 ≤ q ∨ 4294967296 * r + x < q * v0) (hr : r + v1 < 4294967296) : Gs v1 v0 u x (q - 1) (r + v1) := by
  obtain ⟨a, b, c⟩ := h.down h1 hu hx ht
  have := h.le
  exact ⟨c, a, by omega, hr⟩
theorem Gs.out (h : Gs v1 v0 u x q r) (h1 : 2147483648 ≤ v1) (h0 : v0 < 4294967296) (hu : u < v1 * 4294967296 + v0) (hx : x < 4294967296) (ht : 4294967296 ≤ q ∨ 4294967296 * r + x < q * v0) (hr : 4294967296 ≤ r + v1) : q - 1 = (u * 4294967296 + x) / (v1 * 4294967296 + v0) := by
  obtain ⟨a, b, c⟩ := h.down h1 hu hx ht
  have hl := h.le
  refine Nat.le_antisymm ?_ a
  rw [Nat.le_div_iff_mul_le (by omega)]
  have e : (q - 1) * (v1 * 4294967296 + v0) = ((q - 1) * v1) * 4294967296 + (q - 1) * v0 := by rw [Nat.mul_add, Nat.mul_assoc]
  have f : (q - 1) * v0 ≤ 4294967296 * 4294967295 := Nat.mul_le_mul (by omega) (by omega)
  rw [e]
  generalize (q - 1) * v1 = A at *
  generalize (q - 1) * v0 = B at *
  omega
end
/-- The remainder of a step, in words. -/
theorem rest_word (u x q v : Nat) (hv : v < 18446744073709551616) (hp : 0 < v) (hq : q = (u * 4294967296 + x) / v) : ((u : Int) * 4294967296 + x - q * v) % 18446744073709551616 = (((u * 4294967296 + x) % v : Nat) : Int) := by
  subst hq
  have e := Nat.div_add_mod (u * 4294967296 + x) v
  have hm := Nat.mod_lt (u * 4294967296 + x) hp
  rw [Nat.mul_comm v] at e
  have e2 : (((u * 4294967296 + x) / v : Nat) : Int) * v = (((u * 4294967296 + x) / v * v : Nat) : Int) := by rw [Int.natCast_mul]
  rw [e2]
  generalize (u * 4294967296 + x) / v * v = A at *
  generalize (u * 4294967296 + x) % v = R at *
  omega
/-- Two steps are a division. -/
theorem two_steps (u x1 x0 v : Nat) (hp : 0 < v) : (u * 4294967296 + x1) / v * 4294967296 + ((u * 4294967296 + x1) % v * 4294967296 + x0) / v = (u * 18446744073709551616 + (x1 * 4294967296 + x0)) / v ∧ ((u * 4294967296 + x1) % v * 4294967296 + x0) % v = (u * 18446744073709551616 + (x1 * 4294967296 + x0)) % v := by
  have e := Nat.div_add_mod (u * 4294967296 + x1) v
  have e2 : u * 18446744073709551616 + (x1 * 4294967296 + x0) = v * ((u * 4294967296 + x1) / v * 4294967296) + ((u * 4294967296 + x1) % v * 4294967296 + x0) := by
    rw [← Nat.mul_assoc]
    omega
  rw [e2]
  exact ⟨(Nat.mul_add_div hp _ _).symm, (Nat.mul_add_mod _ _ _).symm⟩
end Go.Proofs.YtofddbjnncgmlaaGreatDoor
namespace Go.Proofs.YtofddbjnncgmlaaGreatDoor
open Go.RowKit
open Go.Deep
theorem low32 (x : Nat) (h : x < 18446744073709551616) : bits .and .u64 (x : Int) 4294967295 = (x : Int) % 4294967296 := and_low32 _ (by omega) (by omega)
section
set_option maxRecDepth 10000
set_option maxHeartbeats 1000000
theorem mul64_any (x y : Nat) (hx : x < 18446744073709551616) (hy : y < 18446744073709551616) (w : World) : Calls Tryz.prog 375 #[.int .u64 (x : Int), .int .u64 (y : Int)] w fun e w' => e = .returned (.tuple #[.int .u64 ((x * y / 18446744073709551616 : Nat) : Int), .int .u64 ((x * y % 18446744073709551616 : Nat) : Int)]) ∧ w' = w := by
  have e := mul64_arith x y (by omega) (by omega) (by omega) (by omega)
  have m1 := low32 x hx
  have m2 := low32 y hy
  have e1 : ((x * y / 18446744073709551616 : Nat) : Int) = (x : Int) * y / 18446744073709551616 := by simp
  have e2 : ((x * y % 18446744073709551616 : Nat) : Int) = (x : Int) * y % 18446744073709551616 := by simp
  rw [e1, e2, ← e]
  have m3 := fun z => and_low32 (z % 18446744073709551616) (by omega) (by omega)
  clear e e1 e2
  go_enter Tryz.func375, Tryz.ntmps375
  go_wp2
  go_ret2
  simp only [IntKind.wrap_u64, m3]
  exact ⟨rfl, trivial⟩
/-- The library's table of bits. -/
theorem wpList_len8 {w : World} {ops : Array Oper} {rest : List Oper} {o : Oper} {a : Act} {Q : Exit → Act → World → Prop} (hgd : o.guard = none) (T : ByteArray) (x : Operand) (ho : o.op = .index 9 (.const (.string T)) x) (X : Int) (hx : a.eval x = .int .u8 X) (j : Nat) (hX : X = j) (hj : j < 256)
    (hT : ∀ k : Fin 256, T.data[k.val]?.map (·.toNat) = some (bl k.val))
    (h : wpList Tryz.prog ops Q rest (a.put o.dst (.int .u8 ((bl j : Nat) : Int))) w) : wpList Tryz.prog ops Q (o :: rest) a w := by
  subst hX
  refine wpList_plain hgd fun K hK => ?_
  have e := hT ⟨j, hj⟩
  simp only [Option.map_eq_some_iff] at e
  obtain ⟨b, hb, hbl⟩ := e
  have hlt : j < T.size := by
    rcases Nat.lt_or_ge j T.data.size with h' | h'
    · exact h'
    · rw [Array.getElem?_eq_none h'] at hb
      cases hb
  have hg : T[j] = b := by
    have h2 := Array.getElem?_eq_getElem (xs := T.data) (i := j) hlt
    rw [hb] at h2
    exact (Option.some.inj h2).symm
  have hr : (Instr.index 9 (.string T) (.int .u8 (j : Int))).run Tryz.prog w = .ok (.int .u8 ((bl j : Nat) : Int)) w := by
    rw [run_index_string w _ _ _ _ Tryz.underlying9, dif_pos ⟨by omega, by omega⟩]
    simp [hg, hbl]
  have hc : a.eval (.const (.string T)) = .string T := rfl
  unfold Oper.wp execOp
  simp only [ho, hc, hx, hr, Sem.run_bind, Result.andThen_ok, Sem.run_pure]
  exact hK _ _ h
theorem bl_int (Y : Int) (k : Nat) (c : Int) (hc : c = ((2 ^ k : Nat) : Int)) (h : c ≤ Y) : bl Y.toNat = k + bl (Y / c).toNat := by
  subst hc
  obtain ⟨y, rfl⟩ := Int.eq_ofNat_of_zero_le (Int.le_trans (Int.natCast_nonneg _) h)
  rw [Int.toNat_natCast, ← Int.natCast_ediv, Int.toNat_natCast]
  exact bl_shift y k (by omega)
theorem len_sum (k : Nat) (hk : k ≤ 64) (Y Z : Int) (h1 : Y < 18446744073709551616) (h : bl Z.toNat = k + bl Y.toNat) : wrap64 ((k : Int) + wrap64 ((bl Y.toNat : Nat) : Int)) = ((bl Z.toNat : Nat) : Int) := by
  have hb : bl Y.toNat ≤ 64 := bl_le_of _ 64 (by omega)
  rw [h]
  unfold wrap64
  omega
theorem len64_int (X : Int) (h0 : 0 ≤ X) (h1 : X < 18446744073709551616) (w : World) : Calls Tryz.prog 313 #[.int .u64 X] w fun e w' => e = .returned (.int .i64 ((bl X.toNat : Nat) : Int)) ∧ w' = w := by
  go_enter Tryz.func313, Tryz.ntmps313
  generalize hT0 : ByteArray.mk _ = T
  have hT : Hid (∀ k : Fin 256, T.data[k.val]?.map (·.toNat) = some (bl k.val)) := by
    subst hT0
    show ∀ k : Fin 256, _
    decide +kernel
  clear hT0
  go_wp2_with (refine wpList_len8 rfl _ _ rfl _ rfl (Int.toNat _) (Int.toNat_of_nonneg (by omega)).symm (by omega) hT.out ?_)
  all_goals go_ret
  all_goals refine ⟨ret_int ?_, rfl⟩
  · exact len_sum 56 (by omega) (X / 4294967296 / 65536 / 256) X (by omega) (by rw [bl_int X 32 4294967296 (by decide) (by omega), bl_int _ 16 65536 (by decide) (by omega), bl_int _ 8 256 (by decide) (by omega)]; omega)
  · exact len_sum 48 (by omega) (X / 4294967296 / 65536) X (by omega) (by rw [bl_int X 32 4294967296 (by decide) (by omega), bl_int _ 16 65536 (by decide) (by omega)]; omega)
  · exact len_sum 40 (by omega) (X / 4294967296 / 256) X (by omega) (by rw [bl_int X 32 4294967296 (by decide) (by omega), bl_int _ 8 256 (by decide) (by omega)]; omega)
  · exact len_sum 32 (by omega) (X / 4294967296) X (by omega) (by rw [bl_int X 32 4294967296 (by decide) (by omega)])
  · exact len_sum 24 (by omega) (X / 65536 / 256) X (by omega) (by rw [bl_int X 16 65536 (by decide) (by omega), bl_int _ 8 256 (by decide) (by omega)]; omega)
  · exact len_sum 16 (by omega) (X / 65536) X (by omega) (by rw [bl_int X 16 65536 (by decide) (by omega)])
  · exact len_sum 8 (by omega) (X / 256) X (by omega) (by rw [bl_int X 8 256 (by decide) (by omega)])
  · have := len_sum 0 (by omega) X X h1 (by omega)
    simpa using this
theorem lz64_int (X : Int) (h0 : 0 ≤ X) (h1 : X < 18446744073709551616) (w : World) : Calls Tryz.prog 353 #[.int .u64 X] w fun e w' => e = .returned (.int .i64 (64 - (bl X.toNat : Int))) ∧ w' = w := by
  have hb : bl X.toNat ≤ 64 := bl_le_of _ 64 (by omega)
  have hl := fun W => len64_int X h0 h1 W
  have hw : IntKind.i64.wrap (64 - (bl X.toNat : Int)) = 64 - (bl X.toNat : Int) := wrapI _ (by omega) (by omega)
  generalize bl X.toNat = b at *
  go_enter Tryz.func353, Tryz.ntmps353
  go_wp2_with (go_at_call 313; refine (hl _).mono ?_; rintro e w3 ⟨rfl, hw3⟩; subst w3)
  go_ret
  exact ⟨rfl, rfl⟩
end
end Go.Proofs.YtofddbjnncgmlaaGreatDoor
namespace Go.Proofs.YtofddbjnncgmlaaGreatDoor
open Go.RowKit
open Go.Deep
/-- A number shifted so that its highest bit is set. -/
theorem norm_bits (y : Nat) (h0 : 0 < y) (h1 : y < 18446744073709551616) : 9223372036854775808 ≤ y * 2 ^ (64 - bl y) ∧ y * 2 ^ (64 - bl y) < 18446744073709551616 := by
  have a := bl_lt y
  have b := bl_le y h0
  have c := bl_pos y h0
  have d : bl y ≤ 64 := bl_le_of y 64 h1
  have p := Nat.two_pow_pos (64 - bl y)
  constructor
  · have e : 2 ^ (bl y - 1) * 2 ^ (64 - bl y) = 9223372036854775808 := by
      rw [← Nat.pow_add, show bl y - 1 + (64 - bl y) = 63 by omega]
    rw [← e]
    exact Nat.mul_le_mul_right _ b
  · have e : 2 ^ bl y * 2 ^ (64 - bl y) = 18446744073709551616 := by
      rw [← Nat.pow_add, show bl y + (64 - bl y) = 64 by omega]
    rw [← e]
    exact Nat.mul_lt_mul_of_pos_right a p
/-- Two words shifted: the upper word, and the lower one. -/
theorem shift_two (hi lo s : Nat) (hs : s ≤ 64) (hl : lo < 18446744073709551616) : (hi * 18446744073709551616 + lo) * 2 ^ s = (hi * 2 ^ s + lo / 2 ^ (64 - s)) * 18446744073709551616 + lo * 2 ^ s % 18446744073709551616 ∧ lo / 2 ^ (64 - s) < 2 ^ s ∧ lo / 2 ^ (64 - s) = lo * 2 ^ s / 18446744073709551616 := by
  have e : 2 ^ (64 - s) * 2 ^ s = 18446744073709551616 := by rw [← Nat.pow_add, show 64 - s + s = 64 by omega]
  have p := Nat.two_pow_pos s
  have q := Nat.two_pow_pos (64 - s)
  have d : lo / 2 ^ (64 - s) = lo * 2 ^ s / 18446744073709551616 := by rw [← e, Nat.mul_div_mul_right _ _ p]
  refine ⟨?_, ?_, d⟩
  · rw [d, Nat.add_mul, Nat.add_mul, Nat.mul_right_comm]
    have := Nat.div_add_mod (lo * 2 ^ s) 18446744073709551616
    omega
  · rw [Nat.div_lt_iff_lt_mul q, Nat.mul_comm, e]
    exact hl
/-- What the normalized division gives back. -/
theorem norm_div (n y p : Nat) (hp : 0 < p) : n * p / (y * p) = n / y ∧ n * p % (y * p) / p = n % y := by
  refine ⟨Nat.mul_div_mul_right _ _ hp, ?_⟩
  rw [Nat.mul_mod_mul_right, Nat.mul_div_cancel _ hp]
theorem rest_wrap (u x q v : Nat) (hv : v < 18446744073709551616) (hp : 0 < v) (hq : q = (u * 4294967296 + x) / v) : IntKind.u64.wrap (IntKind.u64.wrap (IntKind.u64.wrap ((u : Int) * 4294967296) + x) - IntKind.u64.wrap ((q : Int) * v)) = (((u * 4294967296 + x) % v : Nat) : Int) := by
  rw [← rest_word u x q v hv hp hq]
  simp only [IntKind.wrap_u64]
  generalize (q : Int) * v = P
  omega
theorem guess_quo (u v1 : Nat) (hu : u < 18446744073709551616) : IntKind.u64.wrap ((u : Int) / v1) = ((u / v1 : Nat) : Int) := by
  have h := Nat.div_le_self u v1
  rw [← Int.natCast_ediv]
  generalize u / v1 = d at *
  exact wrapu _ (by omega) (by omega)
theorem guess_rest (u v1 : Nat) (hu : u < 18446744073709551616) : IntKind.u64.wrap ((u : Int) - IntKind.u64.wrap (((u / v1 : Nat) : Int) * v1)) = ((u % v1 : Nat) : Int) := by
  have e := Nat.div_add_mod u v1
  rw [Nat.mul_comm] at e
  rw [← Int.natCast_mul]
  generalize u / v1 * v1 = P at *
  rw [wrapu (P : Int) (by omega) (by omega), wrapu _ (by omega) (by omega)]
  omega
theorem or_shift (hi lo S : Nat) (hS : S ≤ 64) (hl : lo < 18446744073709551616) (hh : hi * 2 ^ S + lo / 2 ^ (64 - S) < 18446744073709551616) : bits .or .u64 (IntKind.u64.wrap ((hi : Int) * 2 ^ S)) ((lo : Int) / 2 ^ (64 - S)) = ((hi * 2 ^ S + lo / 2 ^ (64 - S) : Nat) : Int) := by
  obtain ⟨_, hlt, _⟩ := shift_two hi lo S hS hl
  have e1 : (hi : Int) * 2 ^ S = ((hi * 2 ^ S : Nat) : Int) := by simp
  have e2 : (lo : Int) / 2 ^ (64 - S) = ((lo / 2 ^ (64 - S) : Nat) : Int) := by simp
  rw [e1, e2, wrapu _ (by omega) (by omega), u64_or_nat _ _ (by omega) (by omega)]
  congr 1
  rw [Nat.mul_comm hi, ← Nat.two_pow_add_eq_or_of_lt hlt]
theorem low_word (lo S : Nat) : IntKind.u64.wrap ((lo : Int) * 2 ^ S) = ((lo * 2 ^ S % 18446744073709551616 : Nat) : Int) := by
  rw [IntKind.wrap_u64]
  simp
section
set_option maxRecDepth 10000
set_option maxHeartbeats 4000000
theorem div64_small (lo y : Nat) (hl : lo < 18446744073709551616) (hy0 : 0 < y) (w : World) : Calls Tryz.prog 331 #[.int .u64 0, .int .u64 (lo : Int), .int .u64 (y : Int)] w fun e w' => e = .returned (.tuple #[.int .u64 ((lo / y : Nat) : Int), .int .u64 ((lo % y : Nat) : Int)]) ∧ Below w.heap.size w w' := by
  have e1 : ((lo / y : Nat) : Int) = (lo : Int) / y := by simp
  have e2 : ((lo % y : Nat) : Int) = (lo : Int) % y := by simp
  have e3 : IntKind.u64.wrap ((lo : Int) / y) = (lo : Int) / y := by
    have := Nat.div_le_self lo y
    rw [← e1]
    generalize lo / y = d at *
    exact wrapu _ (by omega) (by omega)
  rw [e1, e2]
  have h1 : (y : Int) ≠ 0 := by omega
  have h2 : ¬ (y : Int) ≤ 0 := by omega
  clear e1 e2 hy0 hl
  go_enter Tryz.func331, Tryz.ntmps331
  go_upto_region 6 with fail
  go_quiet (fail)
  go_wp2
  go_ret2
  exact ⟨rfl, below_drewN (Below.refl _ _) _⟩
theorem div64_big (hi lo y : Nat) (hh : 0 < hi) (hy : hi < y) (hl : lo < 18446744073709551616) (h64 : y < 18446744073709551616) (w : World) : Calls Tryz.prog 331 #[.int .u64 (hi : Int), .int .u64 (lo : Int), .int .u64 (y : Int)] w fun e w' => e = .returned (.tuple #[.int .u64 (((hi * 18446744073709551616 + lo) / y : Nat) : Int), .int .u64 (((hi * 18446744073709551616 + lo) % y : Nat) : Int)]) ∧ Below w.heap.size w w' := by
  have h1 : (y : Int) ≠ 0 := by omega
  have h2 : ¬ (y : Int) ≤ hi := by omega
  have h3 : (hi : Int) ≠ 0 := by omega
  have hb : bl y ≤ 64 := bl_le_of y 64 h64
  have hb1 := bl_pos y (by omega)
  obtain ⟨n1, n2⟩ := norm_bits y (by omega) h64
  obtain ⟨S, hS⟩ : ∃ S, S = 64 - bl y := ⟨_, rfl⟩
  rw [← hS] at n1 n2
  have HZ : Hid (∀ W, Calls Tryz.prog 353 #[.int .u64 (y : Int)] W fun e w' => e = .returned (.int .i64 (S : Int)) ∧ w' = W) := fun W => by
    have := lz64_int y (by omega) (by omega) W
    rw [Int.toNat_natCast, show (64 : Int) - (bl y : Int) = (S : Int) by omega] at this
    exact this
  have hS6 : (S : Int) ≤ 64 := by omega
  have w1 : IntKind.u64.wrap (S : Int) = S := wrapu _ (by omega) (by omega)
  have w2 : IntKind.u64.wrap (64 - (S : Int)) = 64 - S := wrapu _ (by omega) (by omega)
  have w3 : (64 - (S : Int)).toNat = 64 - S := by omega
  obtain ⟨s1, s2, s3⟩ := shift_two hi lo S (by omega) hl
  have hp := Nat.two_pow_pos S
  have hu : hi * 2 ^ S + lo / 2 ^ (64 - S) < y * 2 ^ S := by
    have : (hi + 1) * 2 ^ S ≤ y * 2 ^ S := Nat.mul_le_mul_right _ hy
    rw [Nat.add_mul] at this
    omega
  have fU := or_shift hi lo S (by omega) hl (by omega)
  have fL := low_word lo S
  have fV := low_word y S
  rw [Nat.mod_eq_of_lt n2] at fV
  have hLl := Nat.mod_lt (lo * 2 ^ S) (show 0 < 18446744073709551616 by decide)
  obtain ⟨d1, d2⟩ := norm_div (hi * 18446744073709551616 + lo) y (2 ^ S) hp
  rw [s1] at d1 d2
  rw [← d1, ← d2]
  have HP : Hid (((2 : Int) ^ S) = ((2 ^ S : Nat) : Int)) := by unfold Hid; simp
  clear s1 s2 s3 d1 d2 hS hb hb1 hl h64
  generalize y * 2 ^ S = V at *
  generalize hi * 2 ^ S + lo / 2 ^ (64 - S) = u at *
  generalize lo * 2 ^ S % 18446744073709551616 = L at *
  have fM := low32 V n2
  have fN := low32 L hLl
  obtain ⟨v1, hv1⟩ : ∃ v1, v1 = V / 4294967296 := ⟨_, rfl⟩
  obtain ⟨v0, hv0⟩ : ∃ v0, v0 = V % 4294967296 := ⟨_, rfl⟩
  obtain ⟨x1, hx1⟩ : ∃ x1, x1 = L / 4294967296 := ⟨_, rfl⟩
  obtain ⟨x0, hx0⟩ : ∃ x0, x0 = L % 4294967296 := ⟨_, rfl⟩
  have hVs : V = v1 * 4294967296 + v0 := by omega
  have hLs : L = x1 * 4294967296 + x0 := by omega
  have t2s := two_steps u x1 x0 V (by omega)
  rw [← hLs] at t2s
  rw [← t2s.1, ← t2s.2]
  obtain ⟨q1, hq1⟩ : ∃ q, q = (u * 4294967296 + x1) / V := ⟨_, rfl⟩
  obtain ⟨r1, hr1⟩ : ∃ q, q = (u * 4294967296 + x1) % V := ⟨_, rfl⟩
  have hr1V : r1 < V := by rw [hr1]; exact Nat.mod_lt _ (by omega)
  rw [← hq1, ← hr1]
  obtain ⟨q0, hq0⟩ : ∃ q, q = (r1 * 4294967296 + x0) / V := ⟨_, rfl⟩
  obtain ⟨r0, hr0⟩ : ∃ q, q = (r1 * 4294967296 + x0) % V := ⟨_, rfl⟩
  rw [← hq0, ← hr0]
  have hq1l : q1 < 4294967296 := by rw [hq1, Nat.div_lt_iff_lt_mul (by omega)]; omega
  have hq0l : q0 < 4294967296 := by rw [hq0, Nat.div_lt_iff_lt_mul (by omega)]; omega
  have fR1 := rest_wrap u x1 q1 V n2 (by omega) hq1
  have fR0 := rest_wrap r1 x0 q0 V n2 (by omega) hq0
  rw [← hr1] at fR1
  rw [← hr0] at fR0
  have fG1 := guess_quo u v1 (by omega)
  have fH1 := guess_rest u v1 (by omega)
  have fG0 := guess_quo r1 v1 (by omega)
  have fH0 := guess_rest r1 v1 (by omega)
  have HG0 := hide (Gs.start (v1 := v1) (v0 := v0) (u := u) (x := x1) (by omega) (by omega) (by omega) (by omega) (by omega))
  have HG2 := hide (Gs.start (v1 := v1) (v0 := v0) (u := r1) (x := x0) (by omega) (by omega) (by omega) (by omega) (by omega))
  have HU0 : Hid (u < v1 * 4294967296 + v0) := by unfold Hid; omega
  have HU2 : Hid (r1 < v1 * 4294967296 + v0) := by unfold Hid; omega
  obtain ⟨Q0, HQ0⟩ : ∃ Q, Hid (Q = (u * 4294967296 + x1) / (v1 * 4294967296 + v0)) := ⟨_, rfl⟩
  obtain ⟨Q2, HQ2⟩ : ∃ Q, Hid (Q = (r1 * 4294967296 + x0) / (v1 * 4294967296 + v0)) := ⟨_, rfl⟩
  have eQ0 : Q0 = q1 := by rw [HQ0.out, hq1, hVs]
  have eQ2 : Q2 = q0 := by rw [HQ2.out, hq0, hVs]
  subst eQ0 eQ2
  obtain ⟨Y1, hY1⟩ : ∃ Y : Int, (v1 : Int) = Y := ⟨_, rfl⟩
  obtain ⟨Y0, hY0⟩ : ∃ Y : Int, (v0 : Int) = Y := ⟨_, rfl⟩
  obtain ⟨X0, hX0⟩ : ∃ Y : Int, (x1 : Int) = Y := ⟨_, rfl⟩
  obtain ⟨X2, hX2⟩ : ∃ Y : Int, (x0 : Int) = Y := ⟨_, rfl⟩
  have FV : Hid (2147483648 ≤ v1 ∧ v0 < 4294967296 ∧ v1 < 4294967296 ∧ (v1 : Int) = Y1) := ⟨by omega, by omega, by omega, hY1⟩
  have FV0 := hide hY0
  have FX0 : Hid (X0 = (x1 : Int) ∧ x1 < 4294967296) := ⟨hX0.symm, by omega⟩
  have FX2 : Hid (X2 = (x0 : Int) ∧ x0 < 4294967296) := ⟨hX2.symm, by omega⟩
  have hy1 : (V : Int) / 4294967296 = Y1 := by omega
  have hy0 : (V : Int) % 4294967296 = Y0 := by omega
  have hl1 : (L : Int) / 4294967296 = X0 := by omega
  have hl0 : (L : Int) % 4294967296 = X2 := by omega
  have hY1n : Y1 ≠ 0 := by omega
  rw [hy0] at fM
  rw [hl0] at fN
  rw [hX0] at fR1
  rw [hX2] at fR0
  rw [hY1] at fG1 fH1 fG0 fH0
  have fE1 : IntKind.u64.wrap ((Q0 : Int) * 4294967296) = (Q0 : Int) * 4294967296 := wrapu _ (by omega) (by omega)
  have fE2 : IntKind.u64.wrap ((Q0 : Int) * 4294967296 + Q2) = ((Q0 * 4294967296 + Q2 : Nat) : Int) := by rw [wrapu _ (by omega) (by omega)]; omega
  have fE3 : (r0 : Int) / 2 ^ S = ((r0 / 2 ^ S : Nat) : Int) := by rw [HP.out, ← Int.natCast_ediv]
  obtain ⟨QA, hQA⟩ : ∃ k, Q0 * 4294967296 + Q2 = k := ⟨_, rfl⟩
  rw [hQA] at fE2
  rw [hQA]
  generalize r0 / 2 ^ S = RA at *
  generalize hqa : u / v1 = qa at *
  generalize hra : u % v1 = ra at *
  generalize hqb : r1 / v1 = qb at *
  generalize hrb : r1 % v1 = rb at *
  clear hQA hqa hra hqb hrb hY1 hY0 hX0 hX2 hq1 hr1 hq0 hr0 hr1V hv1 hv0 hx1 hx0 hVs hLs t2s hu hLl n1 n2 hh hy hq1l hq0l hp
  go_enter Tryz.func331, Tryz.ntmps331
  go_upto_region 8 with (go_at_call 353; refine (HZ.out _).mono ?_; rintro e w3 ⟨rfl, hw3⟩; subst w3)
  go_upto_block 0 with fail
  go_cut [15, 16] from 67 to 85 (fun q r wx => q = .int .u64 (Q0 : Int) ∧ (∃ R : Int, r = .int .u64 R) ∧ wx = w)
  case first =>
    go_wp2_with fail
    go_loopw [15, 16] (fun q r wr => ∃ Q R : Int, q = .int .u64 Q ∧ r = .int .u64 R ∧ Hid (0 ≤ Q ∧ 0 ≤ R ∧ Gs v1 v0 u x1 Q.toNat R.toNat) ∧ wr = w) (fun q _ _ => (intOf q).toNat)
    case atStart => exact ⟨_, _, rfl, rfl, ⟨by omega, by omega, by rw [Int.toNat_natCast, Int.toNat_natCast]; exact HG0.out⟩, rfl⟩
    case round =>
      obtain ⟨Q, R, rfl, rfl, hG, rfl⟩ := hrel
      obtain ⟨q0, r0, G⟩ := hG.out
      have hle := G.le
      have hr4 := G.r
      obtain ⟨q, rfl⟩ := Int.eq_ofNat_of_zero_le q0
      obtain ⟨r, rfl⟩ := Int.eq_ofNat_of_zero_le r0
      rw [Int.toNat_natCast, Int.toNat_natCast] at G
      have b1 : IntKind.u64.wrap (4294967296 * (r : Int)) = 4294967296 * r := wrapu _ (by omega) (by omega)
      have b2 : IntKind.u64.wrap (4294967296 * (r : Int) + X0) = 4294967296 * r + X0 := wrapu _ (by have := FX0.out; omega) (by have := FX0.out; omega)
      have b3 : IntKind.u64.wrap ((r : Int) + Y1) = r + Y1 := wrapu _ (by have := FV.out; omega) (by have := FV.out; omega)
      have b4 : 4294967296 ≤ q ∨ q < 4294967296 := by omega
      have HG := hide G
      have HLE := hide (And.intro hle hr4)
      clear hG G hle hr4 q0 r0
      rcases b4 with hq | hq
      · have t1 : ((4294967296 : Int) ≤ (q : Int)) := by omega
        have b5 : IntKind.u64.wrap ((q : Int) - 1) = q - 1 := wrapu _ (by omega) (by have := HLE.out; omega)
        have HQ := hide hq
        clear hq
        generalize hqI : (q : Int) = QI at *
        generalize hrI : (r : Int) = RI at *
        have HE := hide (And.intro hqI hrI)
        clear hqI hrI
        by_cases hbr : 4294967296 ≤ RI + Y1
        · go_wp2
          go_meet
          refine ⟨?_, ⟨_, rfl⟩, rfl⟩
          obtain ⟨rfl, rfl⟩ := HE.out
          obtain ⟨e1, e2, e3, e4⟩ := FV.out
          have o := HG.out.out e1 e2 HU0.out FX0.out.2 (.inl HQ.out) (by omega)
          rw [HQ0.out, ← o]
          have := HQ.out
          congr 1
          omega
        · go_wp2
          refine ⟨⟨_, _, rfl, rfl, ?_, trivial⟩, ?_⟩
          · obtain ⟨rfl, rfl⟩ := HE.out
            obtain ⟨e1, e2, e3, e4⟩ := FV.out
            have o := HG.out.next e1 HU0.out FX0.out.2 (.inl HQ.out) (by omega)
            have h1 := HQ.out
            refine ⟨by omega, by omega, ?_⟩
            rw [show ((q : Int) - 1).toNat = q - 1 by omega, show ((r : Int) + Y1).toNat = r + v1 by omega]
            exact o
          · obtain ⟨rfl, rfl⟩ := HE.out
            have h1 := HQ.out
            simp only [intOf]
            omega
      · have hqv : q * v0 < 18446744073709551616 := by
          obtain ⟨e1, e2, e3, e4⟩ := FV.out
          have := Nat.mul_le_mul (show q ≤ 4294967295 by omega) (show v0 ≤ 4294967295 by omega)
          omega
        have t1 : ¬ ((4294967296 : Int) ≤ (q : Int)) := by omega
        have b5 : IntKind.u64.wrap ((q : Int) * Y0) = ((q * v0 : Nat) : Int) := by
          rw [← FV0.out, ← Int.natCast_mul]
          exact wrapu _ (by omega) (by omega)
        have b6 : q = 0 ∨ 1 ≤ q := by omega
        have hb5 : 1 ≤ q → IntKind.u64.wrap ((q : Int) - 1) = q - 1 := fun h => wrapu _ (by omega) (by omega)
        by_cases ht : 4294967296 * r + x1 < q * v0
        · have hq1 := (HG.out.down (by have := FV.out; omega) HU0.out FX0.out.2 (.inr ht)).2.1
          have b7 := hb5 hq1
          have t2 : 4294967296 * (r : Int) + X0 < ((q * v0 : Nat) : Int) := by have := FX0.out; omega
          have HT := hide (And.intro ht hq1)
          clear ht hq1 hb5 b6 hqv hq
          generalize ((q * v0 : Nat) : Int) = P at *
          generalize hqI : (q : Int) = QI at *
          generalize hrI : (r : Int) = RI at *
          have HE := hide (And.intro hqI hrI)
          clear hqI hrI
          by_cases hbr : 4294967296 ≤ RI + Y1
          · go_wp2
            go_meet
            refine ⟨?_, ⟨_, rfl⟩, rfl⟩
            obtain ⟨rfl, rfl⟩ := HE.out
            obtain ⟨e1, e2, e3, e4⟩ := FV.out
            have o := HG.out.out e1 e2 HU0.out FX0.out.2 (.inr HT.out.1) (by omega)
            rw [HQ0.out, ← o]
            have := HT.out.2
            congr 1
            omega
          · go_wp2
            refine ⟨⟨_, _, rfl, rfl, ?_, trivial⟩, ?_⟩
            · obtain ⟨rfl, rfl⟩ := HE.out
              obtain ⟨e1, e2, e3, e4⟩ := FV.out
              have o := HG.out.next e1 HU0.out FX0.out.2 (.inr HT.out.1) (by omega)
              have h1 := HT.out.2
              refine ⟨by omega, by omega, ?_⟩
              rw [show ((q : Int) - 1).toNat = q - 1 by omega, show ((r : Int) + Y1).toNat = r + v1 by omega]
              exact o
            · obtain ⟨rfl, rfl⟩ := HE.out
              have h1 := HT.out.2
              simp only [intOf]
              omega
        · have t2 : ¬ 4294967296 * (r : Int) + X0 < ((q * v0 : Nat) : Int) := by have := FX0.out; omega
          have o := HG.out.done (by have := FV.out; omega) (by omega)
          have HT := hide o
          clear ht hb5 b6 hqv hq o
          generalize ((q * v0 : Nat) : Int) = P at *
          generalize hqI : (q : Int) = QI at *
          generalize hrI : (r : Int) = RI at *
          have HE := hide hqI
          clear hqI hrI
          go_wp2
          go_meet
          refine ⟨?_, ⟨_, rfl⟩, rfl⟩
          rw [HQ0.out, ← HE.out, HT.out]
  obtain ⟨rfl, ⟨RR0, rfl⟩, hwc⟩ := hcut
  subst wc
  go_upto_block 2 with fail
  go_cut [18, 16] from 102 to 120 (fun q r wx => q = .int .u64 (Q2 : Int) ∧ (∃ R : Int, r = .int .u64 R) ∧ wx = w)
  case first =>
    go_wp2_with fail
    go_loopw [18, 16] (fun q r wr => ∃ Q R : Int, q = .int .u64 Q ∧ r = .int .u64 R ∧ Hid (0 ≤ Q ∧ 0 ≤ R ∧ Gs v1 v0 r1 x0 Q.toNat R.toNat) ∧ wr = w) (fun q _ _ => (intOf q).toNat)
    case atStart => exact ⟨_, _, rfl, rfl, ⟨by omega, by omega, by rw [Int.toNat_natCast, Int.toNat_natCast]; exact HG2.out⟩, rfl⟩
    case round =>
      obtain ⟨Q, R, rfl, rfl, hG, rfl⟩ := hrel
      obtain ⟨q0, r0, G⟩ := hG.out
      have hle := G.le
      have hr4 := G.r
      obtain ⟨q, rfl⟩ := Int.eq_ofNat_of_zero_le q0
      obtain ⟨r, rfl⟩ := Int.eq_ofNat_of_zero_le r0
      rw [Int.toNat_natCast, Int.toNat_natCast] at G
      have b1 : IntKind.u64.wrap (4294967296 * (r : Int)) = 4294967296 * r := wrapu _ (by omega) (by omega)
      have b2 : IntKind.u64.wrap (4294967296 * (r : Int) + X2) = 4294967296 * r + X2 := wrapu _ (by have := FX2.out; omega) (by have := FX2.out; omega)
      have b3 : IntKind.u64.wrap ((r : Int) + Y1) = r + Y1 := wrapu _ (by have := FV.out; omega) (by have := FV.out; omega)
      have b4 : 4294967296 ≤ q ∨ q < 4294967296 := by omega
      have HG := hide G
      have HLE := hide (And.intro hle hr4)
      clear hG G hle hr4 q0 r0
      rcases b4 with hq | hq
      · have t1 : ((4294967296 : Int) ≤ (q : Int)) := by omega
        have b5 : IntKind.u64.wrap ((q : Int) - 1) = q - 1 := wrapu _ (by omega) (by have := HLE.out; omega)
        have HQ := hide hq
        clear hq
        generalize hqI : (q : Int) = QI at *
        generalize hrI : (r : Int) = RI at *
        have HE := hide (And.intro hqI hrI)
        clear hqI hrI
        by_cases hbr : 4294967296 ≤ RI + Y1
        · go_wp2
          go_meet
          refine ⟨?_, ⟨_, rfl⟩, rfl⟩
          obtain ⟨rfl, rfl⟩ := HE.out
          obtain ⟨e1, e2, e3, e4⟩ := FV.out
          have o := HG.out.out e1 e2 HU2.out FX2.out.2 (.inl HQ.out) (by omega)
          rw [HQ2.out, ← o]
          have := HQ.out
          congr 1
          omega
        · go_wp2
          refine ⟨⟨_, _, rfl, rfl, ?_, trivial⟩, ?_⟩
          · obtain ⟨rfl, rfl⟩ := HE.out
            obtain ⟨e1, e2, e3, e4⟩ := FV.out
            have o := HG.out.next e1 HU2.out FX2.out.2 (.inl HQ.out) (by omega)
            have h1 := HQ.out
            refine ⟨by omega, by omega, ?_⟩
            rw [show ((q : Int) - 1).toNat = q - 1 by omega, show ((r : Int) + Y1).toNat = r + v1 by omega]
            exact o
          · obtain ⟨rfl, rfl⟩ := HE.out
            have h1 := HQ.out
            simp only [intOf]
            omega
      · have hqv : q * v0 < 18446744073709551616 := by
          obtain ⟨e1, e2, e3, e4⟩ := FV.out
          have := Nat.mul_le_mul (show q ≤ 4294967295 by omega) (show v0 ≤ 4294967295 by omega)
          omega
        have t1 : ¬ ((4294967296 : Int) ≤ (q : Int)) := by omega
        have b5 : IntKind.u64.wrap ((q : Int) * Y0) = ((q * v0 : Nat) : Int) := by
          rw [← FV0.out, ← Int.natCast_mul]
          exact wrapu _ (by omega) (by omega)
        have b6 : q = 0 ∨ 1 ≤ q := by omega
        have hb5 : 1 ≤ q → IntKind.u64.wrap ((q : Int) - 1) = q - 1 := fun h => wrapu _ (by omega) (by omega)
        by_cases ht : 4294967296 * r + x0 < q * v0
        · have hq1 := (HG.out.down (by have := FV.out; omega) HU2.out FX2.out.2 (.inr ht)).2.1
          have b7 := hb5 hq1
          have t2 : 4294967296 * (r : Int) + X2 < ((q * v0 : Nat) : Int) := by have := FX2.out; omega
          have HT := hide (And.intro ht hq1)
          clear ht hq1 hb5 b6 hqv hq
          generalize ((q * v0 : Nat) : Int) = P at *
          generalize hqI : (q : Int) = QI at *
          generalize hrI : (r : Int) = RI at *
          have HE := hide (And.intro hqI hrI)
          clear hqI hrI
          by_cases hbr : 4294967296 ≤ RI + Y1
          · go_wp2
            go_meet
            refine ⟨?_, ⟨_, rfl⟩, rfl⟩
            obtain ⟨rfl, rfl⟩ := HE.out
            obtain ⟨e1, e2, e3, e4⟩ := FV.out
            have o := HG.out.out e1 e2 HU2.out FX2.out.2 (.inr HT.out.1) (by omega)
            rw [HQ2.out, ← o]
            have := HT.out.2
            congr 1
            omega
          · go_wp2
            refine ⟨⟨_, _, rfl, rfl, ?_, trivial⟩, ?_⟩
            · obtain ⟨rfl, rfl⟩ := HE.out
              obtain ⟨e1, e2, e3, e4⟩ := FV.out
              have o := HG.out.next e1 HU2.out FX2.out.2 (.inr HT.out.1) (by omega)
              have h1 := HT.out.2
              refine ⟨by omega, by omega, ?_⟩
              rw [show ((q : Int) - 1).toNat = q - 1 by omega, show ((r : Int) + Y1).toNat = r + v1 by omega]
              exact o
            · obtain ⟨rfl, rfl⟩ := HE.out
              have h1 := HT.out.2
              simp only [intOf]
              omega
        · have t2 : ¬ 4294967296 * (r : Int) + X2 < ((q * v0 : Nat) : Int) := by have := FX2.out; omega
          have o := HG.out.done (by have := FV.out; omega) (by omega)
          have HT := hide o
          clear ht hb5 b6 hqv hq o
          generalize ((q * v0 : Nat) : Int) = P at *
          generalize hqI : (q : Int) = QI at *
          generalize hrI : (r : Int) = RI at *
          have HE := hide hqI
          clear hqI hrI
          go_wp2
          go_meet
          refine ⟨?_, ⟨_, rfl⟩, rfl⟩
          rw [HQ2.out, ← HE.out, HT.out]
  obtain ⟨rfl, ⟨RR2, rfl⟩, hwc⟩ := hcut
  subst wc
  go_wp2
  go_ret2
  exact ⟨rfl, Below.refl _ _⟩
end
end Go.Proofs.YtofddbjnncgmlaaGreatDoor
