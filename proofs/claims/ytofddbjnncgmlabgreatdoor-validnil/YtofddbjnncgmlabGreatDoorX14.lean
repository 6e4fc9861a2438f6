/- The mathematics of the library's long division of two words by one. The contracts of the library's Mul64, Len64 and LeadingZeros64. The contract of the library's Div64. The contracts of wide.Low, mulAdd, divWord; Div by one word; awake. The document's Add; wide.Low, Div by one word, awake, Sum. wide.Div by one word, awake. awake; wide.Sum; the law WideLists: its walk. The contracts of the document's Compare and Not, and of wide.Not. -/
import Derived.Test.YtofddbjnncgmlabGreatDoorX12
import Derived.Test.YtofddbjnncgmlabGreatDoorX13
import Derived.Deep.CutBlock
namespace Go.Proofs.YtofddbjnncgmlabGreatDoor
/-- What is known in a loop that brings a guessed digit down: v = v1 * 2^32 + v0 divides u * 2^32 + x. -/
structure Gs (v1 v0 u x q r : Nat) : Prop where
  sum : q * v1 + r = u
  ge : (u * 4294967296 + x) / (v1 * 4294967296 + v0) ≤ q
  le : q ≤ 4294967297
  r : r < 4294967296
section
variable {v1 v0 u x q r : Nat}
theorem Gs.prod (h : Gs v1 v0 u x q r) : q * (v1 * 4294967296 + v0) + r * 4294967296 = u * 4294967296 + q * v0 := by
  rw [← h.sum, Nat.mul_add, Nat.add_mul, Nat.mul_assoc]
  omega
theorem Gs.start (h1 : 2147483648 ≤ v1) (h0 : v0 < 4294967296) (hv1 : v1 < 4294967296) (hu : u < v1 * 4294967296 + v0) (hx : x < 4294967296) : Gs v1 v0 u x (u / v1) (u % v1) := by
  have hp : 0 < v1 := by omega
  refine ⟨by rw [Nat.mul_comm]; exact Nat.div_add_mod u v1, ?_, ?_, ?_⟩
  · apply Nat.le_of_lt_succ
    rw [Nat.div_lt_iff_lt_mul (by omega)]
    have e := Nat.div_add_mod u v1
    have hm := Nat.mod_lt u hp
    have e2 : (u / v1 + 1) * (v1 * 4294967296 + v0) = (v1 * (u / v1) + v1) * 4294967296 + (u / v1 + 1) * v0 := by
      rw [Nat.mul_add, ← Nat.mul_assoc, Nat.add_mul (u / v1) 1 v1, Nat.one_mul, Nat.mul_comm (u / v1) v1]
    rw [Nat.succ_eq_add_one, e2]
    omega
  · have : u / v1 < 4294967298 := by
      rw [Nat.div_lt_iff_lt_mul hp]
      omega
    omega
  · have := Nat.mod_lt u hp
    omega
/-- The test passes: the guess is the digit. -/
theorem Gs.done (h : Gs v1 v0 u x q r) (h1 : 0 < v1 * 4294967296 + v0) (ht : q * v0 ≤ 4294967296 * r + x) : q = (u * 4294967296 + x) / (v1 * 4294967296 + v0) := by
  have hp := h.prod
  refine Nat.le_antisymm ?_ h.ge
  rw [Nat.le_div_iff_mul_le h1]
  omega
/-- The test fails: the guess is too great. -/
theorem Gs.down (h : Gs v1 v0 u x q r) (_ : 2147483648 ≤ v1) (hu : u < v1 * 4294967296 + v0) (hx : x < 4294967296) (ht : 4294967296 ≤ q ∨ 4294967296 * r + x < q * v0) : (u * 4294967296 + x) / (v1 * 4294967296 + v0) ≤ q - 1 ∧ 1 ≤ q ∧ (q - 1) * v1 + (r + v1) = u := by
  have hp := h.prod
  have hq : 1 ≤ q := by
    rcases ht with ht | ht
    · omega
    · rcases Nat.eq_zero_or_pos q with h0 | h0
      · subst h0
        omega
      · omega
  refine ⟨?_, hq, ?_⟩
  · have : (u * 4294967296 + x) / (v1 * 4294967296 + v0) < q := by
      rcases ht with ht | ht
      · refine Nat.lt_of_lt_of_le ?_ ht
        rw [Nat.div_lt_iff_lt_mul (by omega)]
        omega
      · rw [Nat.div_lt_iff_lt_mul (by omega)]
        omega
    omega
  · obtain ⟨k, rfl⟩ : ∃ k, q = k + 1 := ⟨q - 1, by omega⟩
    have := h.sum
    rw [Nat.add_mul] at this
    rw [Nat.add_sub_cancel]
    omega
theorem Gs.next (h : Gs v1 v0 u x q r) (h1 : 2147483648 ≤ v1) (hu : u < v1 * 4294967296 + v0) (hx : x < 4294967296) (ht : 4294967296 ≤ q ∨ 4294967296 * r + x < q * v0) (hr : r + v1 < 4294967296) : Gs v1 v0 u x (q - 1) (r + v1) := by
  obtain ⟨a, b, c⟩ := h.down h1 hu hx ht
  have := h.le
  exact ⟨c, a, by omega, hr⟩
theorem Gs.out (h : Gs v1 v0 u x q r) (h1 : 2147483648 ≤ v1) (h0 : v0 < 4294967296) (hu : u < v1 * 4294967296 + v0) (hx : x < 4294967296) (ht : 4294967296 ≤ q ∨ 4294967296 * r + x < q * v0) (hr : 4294967296 ≤ r + v1) : q - 1 = (u * 4294967296 + x) / (v1 * 4294967296 + v0) := by
  obtain ⟨a, b, c⟩ := h.down h1 hu hx ht
  have hl := h.le
  refine Nat.le_antisymm ?_ a
  rw [Nat.le_div_iff_mul_le (by omega)]
  have e : (q - 1) * (v1 * 4294967296 + v0) = ((q - 1) * v1) * 4294967296 + (q - 1) * v0 := by rw [Nat.mul_add, Nat.mul_assoc]
  have f : (q - 1) * v0 ≤ 4294967296 * 4294967295 := Nat.mul_le_mul (by omega) (by omega)
  rw [e]
  generalize (q - 1) * v1 = A at *
  generalize (q - 1) * v0 = B at *
  omega
end
/-- The remainder of a step, in words. -/
theorem rest_word (u x q v : Nat) (hv : v < 18446744073709551616) (hp : 0 < v) (hq : q = (u * 4294967296 + x) / v) : ((u : Int) * 4294967296 + x - q * v) % 18446744073709551616 = (((u * 4294967296 + x) % v : Nat) : Int) := by
  subst hq
  have e := Nat.div_add_mod (u * 4294967296 + x) v
  have hm := Nat.mod_lt (u * 4294967296 + x) hp
  rw [Nat.mul_comm v] at e
  have e2 : (((u * 4294967296 + x) / v : Nat) : Int) * v = (((u * 4294967296 + x) / v * v : Nat) : Int) := by rw [Int.natCast_mul]
  rw [e2]
  generalize (u * 4294967296 + x) / v * v = A at *
  generalize (u * 4294967296 + x) % v = R at *
  omega
/-- Two steps are a division. -/
theorem two_steps (u x1 x0 v : Nat) (hp : 0 < v) : (u * 4294967296 + x1) / v * 4294967296 + ((u * 4294967296 + x1) % v * 4294967296 + x0) / v = (u * 18446744073709551616 + (x1 * 4294967296 + x0)) / v ∧ ((u * 4294967296 + x1) % v * 4294967296 + x0) % v = (u * 18446744073709551616 + (x1 * 4294967296 + x0)) % v := by
  have e := Nat.div_add_mod (u * 4294967296 + x1) v
  have e2 : u * 18446744073709551616 + (x1 * 4294967296 + x0) = v * ((u * 4294967296 + x1) / v * 4294967296) + ((u * 4294967296 + x1) % v * 4294967296 + x0) := by
    rw [← Nat.mul_assoc]
    omega
  rw [e2]
  exact ⟨(Nat.mul_add_div hp _ _).symm, (Nat.mul_add_mod _ _ _).symm⟩
end Go.Proofs.YtofddbjnncgmlabGreatDoor
namespace Go.Proofs.YtofddbjnncgmlabGreatDoor
open Go.RowKit
open Go.Deep
theorem low32 (x : Nat) (h : x < 18446744073709551616) : bits .and .u64 (x : Int) 4294967295 = (x : Int) % 4294967296 := and_low32 _ (by omega) (by omega)
section
set_option maxRecDepth 10000
set_option maxHeartbeats 1000000
/-- The library's table of bits. -/
theorem wpList_len8 {w : World} {ops : Array Oper} {rest : List Oper} {o : Oper} {a : Act} {Q : Exit → Act → World → Prop} (hgd : o.guard = none) (T : ByteArray) (x : Operand) (ho : o.op = .index 9 (.const (.string T)) x) (X : Int) (hx : a.eval x = .int .u8 X) (j : Nat) (hX : X = j) (hj : j < 256)
    (hT : ∀ k : Fin 256, T.data[k.val]?.map (·.toNat) = some (bl k.val))
    (h : wpList Tryz.prog ops Q rest (a.put o.dst (.int .u8 ((bl j : Nat) : Int))) w) : wpList Tryz.prog ops Q (o :: rest) a w := by
  subst hX
  refine wpList_plain hgd fun K hK => ?_
  have e := hT ⟨j, hj⟩
  simp only [Option.map_eq_some_iff] at e
  obtain ⟨b, hb, hbl⟩ := e
  have hlt : j < T.size := by
    rcases Nat.lt_or_ge j T.data.size with h' | h'
    · exact h'
    · rw [Array.getElem?_eq_none h'] at hb
      cases hb
  have hg : T[j] = b := by
    have h2 := Array.getElem?_eq_getElem (xs := T.data) (i := j) hlt
    rw [hb] at h2
    exact (Option.some.inj h2).symm
  have hr : (Instr.index 9 (.string T) (.int .u8 (j : Int))).run Tryz.prog w = .ok (.int .u8 ((bl j : Nat) : Int)) w := by
    rw [run_index_string w _ _ _ _ Tryz.underlying9, dif_pos ⟨by omega, by omega⟩]
    simp [hg, hbl]
  have hc : a.eval (.const (.string T)) = .string T := rfl
  unfold Oper.wp execOp
  simp only [ho, hc, hx, hr, Sem.run_bind, Result.andThen_ok, Sem.run_pure]
  exact hK _ _ h
theorem bl_int (Y : Int) (k : Nat) (c : Int) (hc : c = ((2 ^ k : Nat) : Int)) (h : c ≤ Y) : bl Y.toNat = k + bl (Y / c).toNat := by
  subst hc
  obtain ⟨y, rfl⟩ := Int.eq_ofNat_of_zero_le (Int.le_trans (Int.natCast_nonneg _) h)
  rw [Int.toNat_natCast, ← Int.natCast_ediv, Int.toNat_natCast]
  exact bl_shift y k (by omega)
theorem len_sum (k : Nat) (hk : k ≤ 64) (Y Z : Int) (h1 : Y < 18446744073709551616) (h : bl Z.toNat = k + bl Y.toNat) : wrap64 ((k : Int) + wrap64 ((bl Y.toNat : Nat) : Int)) = ((bl Z.toNat : Nat) : Int) := by
  have hb : bl Y.toNat ≤ 64 := bl_le_of _ 64 (by omega)
  rw [h]
  unfold wrap64
  omega
theorem len64_int (X : Int) (h0 : 0 ≤ X) (h1 : X < 18446744073709551616) (w : World) : Calls Tryz.prog 157 #[.int .u64 X] w fun e w' => e = .returned (.int .i64 ((bl X.toNat : Nat) : Int)) ∧ w' = w := by
  go_enter Tryz.func157, Tryz.ntmps157
  generalize hT0 : ByteArray.mk _ = T
  have hT : Hid (∀ k : Fin 256, T.data[k.val]?.map (·.toNat) = some (bl k.val)) := by
    subst hT0
    show ∀ k : Fin 256, _
    decide +kernel
  clear hT0
  go_wp2_with (refine wpList_len8 rfl _ _ rfl _ rfl (Int.toNat _) (Int.toNat_of_nonneg (by omega)).symm (by omega) hT.out ?_)
  all_goals go_ret
  all_goals refine ⟨ret_int ?_, rfl⟩
  · exact len_sum 56 (by omega) (X / 4294967296 / 65536 / 256) X (by omega) (by rw [bl_int X 32 4294967296 (by decide) (by omega), bl_int _ 16 65536 (by decide) (by omega), bl_int _ 8 256 (by decide) (by omega)]; omega)
  · exact len_sum 48 (by omega) (X / 4294967296 / 65536) X (by omega) (by rw [bl_int X 32 4294967296 (by decide) (by omega), bl_int _ 16 65536 (by decide) (by omega)]; omega)
  · exact len_sum 40 (by omega) (X / 4294967296 / 256) X (by omega) (by rw [bl_int X 32 4294967296 (by decide) (by omega), bl_int _ 8 256 (by decide) (by omega)]; omega)
  · exact len_sum 32 (by omega) (X / 4294967296) X (by omega) (by rw [bl_int X 32 4294967296 (by decide) (by omega)])
  · exact len_sum 24 (by omega) (X / 65536 / 256) X (by omega) (by rw [bl_int X 16 65536 (by decide) (by omega), bl_int _ 8 256 (by decide) (by omega)]; omega)
  · exact len_sum 16 (by omega) (X / 65536) X (by omega) (by rw [bl_int X 16 65536 (by decide) (by omega)])
  · exact len_sum 8 (by omega) (X / 256) X (by omega) (by rw [bl_int X 8 256 (by decide) (by omega)])
  · have := len_sum 0 (by omega) X X h1 (by omega)
    simpa using this
end
end Go.Proofs.YtofddbjnncgmlabGreatDoor
namespace Go.Proofs.YtofddbjnncgmlabGreatDoor
open Go.RowKit
open Go.Deep
/-- A number shifted so that its highest bit is set. -/
theorem norm_bits (y : Nat) (h0 : 0 < y) (h1 : y < 18446744073709551616) : 9223372036854775808 ≤ y * 2 ^ (64 - bl y) ∧ y * 2 ^ (64 - bl y) < 18446744073709551616 := by
  have a := bl_lt y
  have b := bl_le y h0
  have c := bl_pos y h0
  have d : bl y ≤ 64 := bl_le_of y 64 h1
  have p := Nat.two_pow_pos (64 - bl y)
  constructor
  · have e : 2 ^ (bl y - 1) * 2 ^ (64 - bl y) = 9223372036854775808 := by
      rw [← Nat.pow_add, show bl y - 1 + (64 - bl y) = 63 by omega]
    rw [← e]
    exact Nat.mul_le_mul_right _ b
  · have e : 2 ^ bl y * 2 ^ (64 - bl y) = 18446744073709551616 := by
      rw [← Nat.pow_add, show bl y + (64 - bl y) = 64 by omega]
    rw [← e]
    exact Nat.mul_lt_mul_of_pos_right a p
/-- Two words shifted: the upper word, and the lower one. -/
theorem shift_two (hi lo s : Nat) (hs : s ≤ 64) (hl : lo < 18446744073709551616) : (hi * 18446744073709551616 + lo) * 2 ^ s = (hi * 2 ^ s + lo / 2 ^ (64 - s)) * 18446744073709551616 + lo * 2 ^ s % 18446744073709551616 ∧ lo / 2 ^ (64 - s) < 2 ^ s ∧ lo / 2 ^ (64 - s) = lo * 2 ^ s / 18446744073709551616 := by
  have e : 2 ^ (64 - s) * 2 ^ s = 18446744073709551616 := by rw [← Nat.pow_add, show 64 - s + s = 64 by omega]
  have p := Nat.two_pow_pos s
  have q := Nat.two_pow_pos (64 - s)
  have d : lo / 2 ^ (64 - s) = lo * 2 ^ s / 18446744073709551616 := by rw [← e, Nat.mul_div_mul_right _ _ p]
  refine ⟨?_, ?_, d⟩
  · rw [d, Nat.add_mul, Nat.add_mul, Nat.mul_right_comm]
    have := Nat.div_add_mod (lo * 2 ^ s) 18446744073709551616
    omega
  · rw [Nat.div_lt_iff_lt_mul q, Nat.mul_comm, e]
    exact hl
/-- What the normalized division gives back. -/
theorem norm_div (n y p : Nat) (hp : 0 < p) : n * p / (y * p) = n / y ∧ n * p % (y * p) / p = n % y := by
  refine ⟨Nat.mul_div_mul_right _ _ hp, ?_⟩
  rw [Nat.mul_mod_mul_right, Nat.mul_div_cancel _ hp]
theorem rest_wrap (u x q v : Nat) (hv : v < 18446744073709551616) (hp : 0 < v) (hq : q = (u * 4294967296 + x) / v) : IntKind.u64.wrap (IntKind.u64.wrap (IntKind.u64.wrap ((u : Int) * 4294967296) + x) - IntKind.u64.wrap ((q : Int) * v)) = (((u * 4294967296 + x) % v : Nat) : Int) := by
  rw [← rest_word u x q v hv hp hq]
  simp only [IntKind.wrap_u64]
  generalize (q : Int) * v = P
  omega
theorem guess_quo (u v1 : Nat) (hu : u < 18446744073709551616) : IntKind.u64.wrap ((u : Int) / v1) = ((u / v1 : Nat) : Int) := by
  have h := Nat.div_le_self u v1
  rw [← Int.natCast_ediv]
  generalize u / v1 = d at *
  exact wrapu _ (by omega) (by omega)
theorem guess_rest (u v1 : Nat) (hu : u < 18446744073709551616) : IntKind.u64.wrap ((u : Int) - IntKind.u64.wrap (((u / v1 : Nat) : Int) * v1)) = ((u % v1 : Nat) : Int) := by
  have e := Nat.div_add_mod u v1
  rw [Nat.mul_comm] at e
  rw [← Int.natCast_mul]
  generalize u / v1 * v1 = P at *
  rw [wrapu (P : Int) (by omega) (by omega), wrapu _ (by omega) (by omega)]
  omega
theorem or_shift (hi lo S : Nat) (hS : S ≤ 64) (hl : lo < 18446744073709551616) (hh : hi * 2 ^ S + lo / 2 ^ (64 - S) < 18446744073709551616) : bits .or .u64 (IntKind.u64.wrap ((hi : Int) * 2 ^ S)) ((lo : Int) / 2 ^ (64 - S)) = ((hi * 2 ^ S + lo / 2 ^ (64 - S) : Nat) : Int) := by
  obtain ⟨_, hlt, _⟩ := shift_two hi lo S hS hl
  have e1 : (hi : Int) * 2 ^ S = ((hi * 2 ^ S : Nat) : Int) := by simp
  have e2 : (lo : Int) / 2 ^ (64 - S) = ((lo / 2 ^ (64 - S) : Nat) : Int) := by simp
  rw [e1, e2, wrapu _ (by omega) (by omega), u64_or_nat _ _ (by omega) (by omega)]
  congr 1
  rw [Nat.mul_comm hi, ← Nat.two_pow_add_eq_or_of_lt hlt]
theorem low_word (lo S : Nat) : IntKind.u64.wrap ((lo : Int) * 2 ^ S) = ((lo * 2 ^ S % 18446744073709551616 : Nat) : Int) := by
  rw [IntKind.wrap_u64]
  simp
section
set_option maxRecDepth 10000
set_option maxHeartbeats 4000000
end
end Go.Proofs.YtofddbjnncgmlabGreatDoor
namespace Go.Proofs.YtofddbjnncgmlabGreatDoor
open Go.RowKit
open Go.Deep
/-- A step of a division by one digit. -/
theorem div_step (B m y i : Nat) (hy : 0 < y) (hB : 0 < B) : (m / B ^ (i + 1) % y * B + dg B m i) / y = dg B (m / y) i ∧ (m / B ^ (i + 1) % y * B + dg B m i) % y = m / B ^ i % y := by
  unfold dg
  have e1 : m / B ^ (i + 1) = m / B ^ i / B := by rw [Nat.pow_succ, Nat.div_div_eq_div_mul]
  have e2 : m / y / B ^ i = m / B ^ i / y := by rw [Nat.div_div_eq_div_mul, Nat.div_div_eq_div_mul, Nat.mul_comm]
  rw [e1, e2]
  generalize m / B ^ i = N
  have hN := Nat.div_add_mod N B
  have hH := Nat.div_add_mod (N / B) y
  have hr := Nat.mod_lt (N / B) hy
  have hl := Nat.mod_lt N hB
  have key : N = y * (N / B / y * B) + (N / B % y * B + N % B) := by
    have : B * (N / B) = y * (N / B / y * B) + N / B % y * B := by
      conv => lhs; rw [← hH]
      rw [Nat.mul_add, Nat.mul_comm B (N / B % y), Nat.mul_comm B (y * _), Nat.mul_assoc]
    omega
  have hlt : (N / B % y * B + N % B) / y < B := by
    rw [Nat.div_lt_iff_lt_mul hy]
    have : (N / B % y + 1) * B ≤ y * B := Nat.mul_le_mul_right _ hr
    rw [Nat.add_mul] at this
    rw [Nat.mul_comm B y]
    omega
  refine ⟨?_, ?_⟩
  · conv => rhs; rw [key]
    rw [Nat.mul_add_div hy, Nat.mul_comm (N / B / y) B, Nat.mul_add_mod, Nat.mod_eq_of_lt hlt]
  · conv => rhs; rw [key]
    rw [Nat.mul_add_mod]
/-- Words of the quotient from i on, words of the number below. -/
def dwf (m y i j : Nat) : Nat := if i ≤ j then wd (m / y) j else wd m j
theorem dwf_four (m y j : Nat) (h : j < 4) : wd m j = dwf m y 4 j := by rw [dwf, if_neg (by omega)]
theorem dwf_zero (m y j : Nat) (_ : j < 4) : dwf m y 0 j = wd (m / y) j := by rw [dwf, if_pos (by omega)]
theorem dwf_step (m y i j : Nat) : (if j = i then wd (m / y) i else dwf m y (i + 1) j) = dwf m y i j := by
  unfold dwf
  by_cases e : j = i
  · rw [if_pos e, if_pos (by omega), e]
  · rw [if_neg e]
    by_cases e2 : i + 1 ≤ j
    · rw [if_pos e2, if_pos (by omega)]
    · rw [if_neg e2, if_neg (by omega)]
theorem dwf_at (m y i : Nat) : dwf m y (i + 1) i = wd m i := by rw [dwf, if_neg (by omega)]
/-- A number in a block of its own, an answer's place in the next. -/
structure Bd (w W : World) (t : TypeId) (f : Nat → Nat) : Prop where
  a : Nd W w.heap.size t 4 f
  r : W.heap[w.heap.size + 1]? = some (.cells (wn 0) t (0, 0))
  bel : Below w.heap.size w W
theorem Bd.start (w : World) (t : TypeId) (m : Nat) : Bd w ((w.alloc (.cells (wn m) t)).alloc (.cells (wn 0) t)) t (wd m) :=
  ⟨Nd.of_heap (blk2x w _ _).1, (blk2x w _ _).2, below2x w _ _⟩
section
variable {w W W' : World} {t : TypeId} {f : Nat → Nat}
theorem Bd.next (j : Bd w W t f) (h : Below W.heap.size W W') : Bd w W' t f :=
  ⟨j.a.below h, (h.block _ (lt_heap j.r)).trans j.r, below_next j.bel h⟩
theorem Bd.set (j : Bd w W t f) (i x : Nat) : Bd w (W.setCell ⟨w.heap.size, i, none⟩ (.int .u64 ((x : Nat) : Int))) t (fun k => if k = i then x else f k) :=
  ⟨j.a.set i x, (Below.heap_setCell _ _ _ _ (by simp)).trans j.r, j.bel.setCell (Nat.le_refl _) _⟩
theorem Bd.congr (j : Bd w W t f) {f' : Nat → Nat} (e : ∀ i, i < 4 → f i = f' i) : Bd w W t f' := ⟨j.a.congr e, j.r, j.bel⟩
end
section
set_option maxRecDepth 10000
set_option maxHeartbeats 1000000
end
end Go.Proofs.YtofddbjnncgmlabGreatDoor
namespace Go.Proofs.YtofddbjnncgmlabGreatDoor
open Go.RowKit
open Go.Deep
/-- The load of a whole array, as an operation of a quiet walk. -/
theorem quiet_loadA {C : World → Prop} {a : Act} {o : Oper} {K : Act → Prop} {t : TypeId} {n : Nat} {z : Array Value} (A : Arr t n z) (x : Operand) (ho : o.op = .load t x) (g : Nat) (hx : a.eval x = .pointer (some ⟨g, 0, none⟩)) (c : Array Value) (hn : c.size = n) (t' : TypeId) (hg : ∀ W, C W → W.heap[g]? = some (.cells c t' (0, 0)))
    (hk : K (a.put o.dst (.agg c))) : o.quiet Tryz.prog a C K := by
  refine ⟨.agg c, fun W hC => ?_, hk⟩
  unfold Oper.quietAt execOp
  simp only [ho, hx, Sem.run_bind, ld_row A hn (hg W hC), Result.andThen_ok, Sem.run_pure]
  exact ⟨rfl, rfl⟩
theorem quiet_build0 {C : World → Prop} {a : Act} {o : Oper} {K : Act → Prop} {t : TypeId} {n : Nat} {z : Array Value} (A : Arr t n z) (ho : o.op = .build t #[]) (hk : K (a.put o.dst (.agg z))) : o.quiet Tryz.prog a C K := by
  refine ⟨.agg z, fun W hC => ?_, hk⟩
  unfold Oper.quietAt execOp
  simp only [ho, List.map_toArray, List.map_nil, A.build, Sem.run_bind, Result.andThen_ok, Sem.run_pure]
  exact ⟨rfl, rfl⟩
theorem quiet_build1 {C : World → Prop} {a : Act} {o : Oper} {K : Act → Prop} {t : TypeId} (x : Operand) (ho : o.op = .build t #[(0, x)]) (X : Int) (c : Array Value) (hr : ∀ W, (Instr.build t #[(0, .int .u64 X)]).run Tryz.prog W = .ok (.agg c) W) (hx : a.eval x = .int .u64 X) (hk : K (a.put o.dst (.agg c))) : o.quiet Tryz.prog a C K := by
  refine ⟨.agg c, fun W hC => ?_, hk⟩
  unfold Oper.quietAt execOp
  simp only [ho, List.map_toArray, List.map_cons, List.map_nil, hx, hr W, Sem.run_bind, Result.andThen_ok, Sem.run_pure]
  exact ⟨rfl, rfl⟩
/-- Arrays held against each other by '!=', as an operation of a quiet walk. -/
theorem quiet_neqW {C : World → Prop} {a : Act} {o : Oper} {K : Act → Prop} (t : TypeId) (x y : Operand) (t2 : TypeId) (ho : o.op = .binOp .neq t x y t2) (c d : Array Value) (hx : a.eval x = .agg c) (hy : a.eval y = .agg d) (hg : Tryz.prog.eqGuardType Tryz.prog.depth t = false)
    (v : Bool) (hr : ∀ W, (Op.equalIn 10000 t (.agg c) (.agg d)).run Tryz.prog W = .ok v W) (hk : K (a.put o.dst (.bool !v))) : o.quiet Tryz.prog a C K := by
  refine ⟨.bool !v, fun W _ => ?_, hk⟩
  unfold Oper.quietAt execOp
  simp only [ho, hx, hy, Sem.run_bind, run_eqGuard_agg (P := Tryz.prog) W .neq t x y c d hg, run_neq_struct, hr W, Result.andThen_ok, Sem.run_pure]
  exact ⟨rfl, rfl⟩
def ldW (x : Value) : Sem Value := Instr.loadAt 232 x
theorem ldW_eq (x : Value) : Instr.loadAt 232 x = ldW x := rfl
def svW (x y : Value) : Sem Unit := Instr.storeAt 232 x y
theorem svW_eq (x y : Value) : Instr.storeAt 232 x y = svW x y := rfl
def ldR (x : Value) : Sem Value := Instr.loadAt 231 x
theorem ldR_eq (x : Value) : Instr.loadAt 231 x = ldR x := rfl
def svR (x y : Value) : Sem Unit := Instr.storeAt 231 x y
theorem svR_eq (x y : Value) : Instr.storeAt 231 x y = svR x y := rfl
theorem ldW_row {W : World} {g n : Nat} {t' : TypeId} (h : W.heap[g]? = some (.cells (wn n) t' (0, 0))) : (ldW (.pointer (some ⟨g, 0, none⟩))).run Tryz.prog W = .ok (.agg (wn n)) W := ld_row AW (wn_size n) h
theorem ldR_row {W : World} {g n : Nat} {t' : TypeId} (h : W.heap[g]? = some (.cells (wn n) t' (0, 0))) : (ldR (.pointer (some ⟨g, 0, none⟩))).run Tryz.prog W = .ok (.agg (wn n)) W := ld_row AR (wn_size n) h
theorem svW_row {w : World} {g m : Nat} {t : TypeId} (hg : w.heap[g]? = some (.cells (wn m) t (0, 0))) (n : Nat) : (svW (.pointer (some ⟨g, 0, none⟩)) (.agg (wn n))).run Tryz.prog w = .ok () (w.setRow g (wn n)) := by
  unfold svW
  simp only [Instr.storeAt, Instr.sureAddr, Sem.run_bind, Sem.run_pure, Result.andThen_ok]
  rw [run_storeVar_row w g t 232 (wn m) (wn n) hg AW.info (by rw [wn_size, wn_size]) (wn_one _)]
theorem svR_row {w : World} {g m : Nat} {t : TypeId} (hg : w.heap[g]? = some (.cells (wn m) t (0, 0))) (n : Nat) : (svR (.pointer (some ⟨g, 0, none⟩)) (.agg (wn n))).run Tryz.prog w = .ok () (w.setRow g (wn n)) := by
  unfold svR
  simp only [Instr.storeAt, Instr.sureAddr, Sem.run_bind, Sem.run_pure, Result.andThen_ok]
  rw [run_storeVar_row w g t 231 (wn m) (wn n) hg AR.info (by rw [wn_size, wn_size]) (wn_one _)]
theorem ref_carry (a b c : Nat) (ha : a < 18446744073709551616) (hb : b < 18446744073709551616) (hc : c ≤ 1) : IntKind.u64.wrap (IntKind.u64.wrap ((a : Int) + c) + b) = (((a + b + c) % 18446744073709551616 : Nat) : Int) ∧ (IntKind.u64.wrap ((a : Int) + c) < a → (a + b + c) / 18446744073709551616 = 1) ∧ (¬ IntKind.u64.wrap ((a : Int) + c) < a → IntKind.u64.wrap (IntKind.u64.wrap ((a : Int) + c) + b) < IntKind.u64.wrap ((a : Int) + c) → (a + b + c) / 18446744073709551616 = 1) ∧ (¬ IntKind.u64.wrap ((a : Int) + c) < a → ¬ IntKind.u64.wrap (IntKind.u64.wrap ((a : Int) + c) + b) < IntKind.u64.wrap ((a : Int) + c) → (a + b + c) / 18446744073709551616 = 0) := by
  simp only [IntKind.wrap_u64]
  refine ⟨by omega, by omega, by omega, by omega⟩
section
set_option maxRecDepth 10000
set_option maxHeartbeats 2000000
end
end Go.Proofs.YtofddbjnncgmlabGreatDoor
namespace Go.Proofs.YtofddbjnncgmlabGreatDoor
open Go.RowKit
open Go.Deep
theorem Ad.next {w W W' : World} {t : TypeId} {m n : Nat} {f : Nat → Nat} (j : Ad w W t m n f) (h : Below W.heap.size W W') : Ad w W' t m n f :=
  ⟨j.a.below h, j.b.below h, (h.block _ (lt_heap j.r)).trans j.r, j.o.below h, below_next j.bel h⟩
theorem Ad.alloc {w W : World} {t : TypeId} {m n : Nat} {f : Nat → Nat} (j : Ad w W t m n f) (o : Obj) : Ad w (W.alloc o) t m n f := j.next ((Below.refl _ _).alloc (Nat.le_refl _) _)
theorem Ad.ne {w W : World} {t : TypeId} {m n : Nat} {f : Nat → Nat} (j : Ad w W t m n f) : w.heap.size + 1 + 1 + 1 < W.heap.size := j.o.lt
/-- Behind the two stores of an answer. -/
theorem two_rows {w W : World} {t : TypeId} {m n : Nat} {f : Nat → Nat} (j : Ad w W t m n f) (c d : Array Value) : ((W.setRow (w.heap.size + 1 + 1) c).setRow (w.heap.size + 1 + 1 + 1) d).heap[w.heap.size + 1 + 1]? = some (.cells c t (0, 0)) ∧ ((W.setRow (w.heap.size + 1 + 1) c).setRow (w.heap.size + 1 + 1 + 1) d).heap[w.heap.size + 1 + 1 + 1]? = some (.cells d t (0, 0)) ∧ Below w.heap.size w ((W.setRow (w.heap.size + 1 + 1) c).setRow (w.heap.size + 1 + 1 + 1) d) := by
  refine ⟨(setRow_other _ _ _ _ (by omega)).trans (setRow_heap _ _ _ _ _ _ j.r), setRow_heap _ _ _ _ _ _ ((setRow_other _ _ _ _ (by omega)).trans j.o.heap), below_setRow (below_setRow j.bel (by omega) _) (by omega) _⟩
attribute [local go_sem ↓] ldW_eq svW_eq
section
set_option maxRecDepth 10000
set_option maxHeartbeats 2000000
end
end Go.Proofs.YtofddbjnncgmlabGreatDoor
namespace Go.Proofs.YtofddbjnncgmlabGreatDoor
open Go.RowKit
open Go.Deep
theorem two_more {W : World} (A B : Obj) : ((W.alloc A).alloc B).heap[W.heap.size]? = some A ∧ ((W.alloc A).alloc B).heap[W.heap.size + 1]? = some B := blk2x W A B
theorem blk2s (w : World) (A B : Obj) (c : Array Value) : (((w.alloc A).alloc B).setRow w.heap.size c).heap[(w.alloc A).heap.size]? = some B := by
  have e : (w.alloc A).heap.size = w.heap.size + 1 := by simp
  rw [e]
  exact (setRow_other _ _ _ _ (by omega)).trans (blk2x w A B).2
/-- Two rows that were made and written. -/
theorem blk2w (w : World) (t : TypeId) (z c d : Array Value) : ((((w.alloc (.cells z t)).alloc (.cells z t)).setRow w.heap.size c).setRow (w.heap.size + 1) d).heap[w.heap.size]? = some (.cells c t (0, 0)) ∧ ((((w.alloc (.cells z t)).alloc (.cells z t)).setRow w.heap.size c).setRow (w.heap.size + 1) d).heap[w.heap.size + 1]? = some (.cells d t (0, 0)) ∧ Below w.heap.size w ((((w.alloc (.cells z t)).alloc (.cells z t)).setRow w.heap.size c).setRow (w.heap.size + 1) d) :=
  ⟨(setRow_other _ _ _ _ (by omega)).trans (setRow_heap _ _ _ _ _ _ (blk2x w _ _).1), setRow_heap _ _ _ _ _ _ ((setRow_other _ _ _ _ (by omega)).trans (blk2x w _ _).2), below_setRow (below_setRow (below2x w _ _) (Nat.le_refl _) _) (by omega) _⟩
theorem wd_four {m : Nat} : wn m = nc 4 (wd m) := rfl
/-- Numbers in a slice. -/
def Wds (w : World) (ao : Option Addr) (n : Nat) (id : Nat → Nat) : Prop := ∀ i, i < n → id i < M ∧ ∃ g off, ao = some ⟨g, off, none⟩ ∧ g < w.heap.size ∧ w.rangeAt g (off + i * 4) (wn (id i)).toList
theorem range_below {w W : World} {B g off : Nat} {cs : List Value} (hr : w.rangeAt g off cs) (hb : Below B w W) (hg : g < B) : W.rangeAt g off cs := fun j v hv => by
  have := hr j v hv
  rw [← this]
  exact hb.cell (p := ⟨g, off + j, none⟩) hg
section
set_option maxRecDepth 10000
set_option maxHeartbeats 2000000
end
end Go.Proofs.YtofddbjnncgmlabGreatDoor
namespace Go.Proofs.YtofddbjnncgmlabGreatDoor
open Go.RowKit
open Go.Deep
theorem div_word_step (m i : Nat) : m / 18446744073709551616 ^ i = 18446744073709551616 * (m / 18446744073709551616 ^ (i + 1)) + wd m i := by
  unfold wd dg
  rw [Nat.pow_succ, ← Nat.div_div_eq_div_mul]
  exact (Nat.div_add_mod _ _).symm
theorem cmp_eq {m n i : Nat} (h : m / 18446744073709551616 ^ (i + 1) = n / 18446744073709551616 ^ (i + 1)) (e : wd m i = wd n i) : m / 18446744073709551616 ^ i = n / 18446744073709551616 ^ i := by
  rw [div_word_step, div_word_step n, h, e]
theorem cmp_lt {m n i : Nat} (h : m / 18446744073709551616 ^ (i + 1) = n / 18446744073709551616 ^ (i + 1)) (e : wd m i < wd n i) : m < n := by
  have h1 := div_word_step m i
  have h2 := div_word_step n i
  rw [h] at h1
  rcases Nat.lt_or_ge m n with h' | h'
  · exact h'
  · have := Nat.div_le_div_right (c := 18446744073709551616 ^ i) h'
    omega
theorem not_word (m i : Nat) (hm : m < M) (hi : i < 4) : wd (M - 1 - m) i = 18446744073709551615 - wd m i := by
  have h1 := add_word (M - 1 - m) m i
  rw [show M - 1 - m + m = M - 1 by omega] at h1
  have hP : 0 < 18446744073709551616 ^ i := Nat.pow_pos (by decide)
  have hall : ∀ k, k ≤ 4 → (M - 1) % 18446744073709551616 ^ k = 18446744073709551616 ^ k - 1 := by
    intro k hk
    have hk : k = 0 ∨ k = 1 ∨ k = 2 ∨ k = 3 ∨ k = 4 := by omega
    rcases hk with rfl | rfl | rfl | rfl | rfl <;> decide
  have hw : wd (M - 1) i = 18446744073709551615 := by
    have hi' : i = 0 ∨ i = 1 ∨ i = 2 ∨ i = 3 := by omega
    rcases hi' with rfl | rfl | rfl | rfl <;> decide
  have hc : cy (M - 1 - m) m i = 0 := by
    unfold cy
    apply Nat.div_eq_of_lt
    have e := Nat.add_mod (M - 1 - m) m (18446744073709551616 ^ i)
    rw [show M - 1 - m + m = M - 1 by omega, hall i (by omega)] at e
    have a1 := Nat.mod_lt (M - 1 - m) hP
    have a2 := Nat.mod_lt m hP
    generalize (M - 1 - m) % 18446744073709551616 ^ i = a at *
    generalize m % 18446744073709551616 ^ i = b at *
    generalize 18446744073709551616 ^ i = P at *
    rcases Nat.lt_or_ge (a + b) P with h | h
    · exact h
    · rw [Nat.mod_eq_sub_mod h, Nat.mod_eq_of_lt (by omega)] at e
      omega
  rw [hc, hw] at h1
  have b1 := wd_lt (M - 1 - m) i
  have b2 := wd_lt m i
  omega
section
set_option maxRecDepth 10000
set_option maxHeartbeats 2000000
end
end Go.Proofs.YtofddbjnncgmlabGreatDoor
