/- Numbers of 256 bits: the mathematics of words and digits. The contracts of the library's Len64 and Len, of Depth and the document's Depth. Levels, the contracts of Root and of the statements' awake. -/
import Derived.Test.YthlaibkdcebekaaDoorRows
import Derived.Test.YthlaibkdcebekaaDoorMx
namespace Go.Proofs.YthlaibkdcebekaaDoor
/-- The digit i of a number to the base B. -/
def dg (B n i : Nat) : Nat := n / B ^ i % B
/-- The number of the first k digits. -/
def vs (B : Nat) (f : Nat → Nat) : Nat → Nat
  | 0 => 0
  | k + 1 => vs B f k + f k * B ^ k
theorem dg_lt {B : Nat} (h : 0 < B) (n i : Nat) : dg B n i < B := Nat.mod_lt _ h
theorem vs_congr (B : Nat) {f g : Nat → Nat} : ∀ {k : Nat}, (∀ i, i < k → f i = g i) → vs B f k = vs B g k
  | 0, _ => rfl
  | k + 1, h => by rw [vs, vs, vs_congr B (fun i hi => h i (by omega)), h k (by omega)]
theorem vs_lt {B : Nat} {f : Nat → Nat} : ∀ {k : Nat}, (∀ i, i < k → f i < B) → vs B f k < B ^ k
  | 0, _ => by simp [vs]
  | k + 1, h => by
    have h1 := vs_lt (k := k) (fun i hi => h i (by omega))
    have h2 : f k + 1 ≤ B := h k (by omega)
    have h3 : (f k + 1) * B ^ k ≤ B * B ^ k := Nat.mul_le_mul_right _ h2
    rw [vs, Nat.pow_succ, Nat.mul_comm (B ^ k) B]
    rw [Nat.add_mul, Nat.one_mul] at h3
    omega
theorem dg_vs {B : Nat} {f : Nat → Nat} : ∀ {k : Nat}, (∀ i, i < k → f i < B) → ∀ i, i < k → dg B (vs B f k) i = f i
  | 0, _, i, hi => by omega
  | k + 1, h, i, hi => by
    have hB : 0 < B := Nat.lt_of_le_of_lt (Nat.zero_le _) (h i hi)
    rcases Nat.lt_or_ge i k with hk | hk
    · have ih := dg_vs (k := k) (fun i hi => h i (by omega)) i hk
      unfold dg at ih ⊢
      rw [vs, show B ^ k = B ^ i * (B * B ^ (k - i - 1)) by rw [← Nat.pow_succ', ← Nat.pow_add]; congr 1; omega, ← Nat.mul_assoc, Nat.mul_comm (f k), Nat.mul_assoc, Nat.add_mul_div_left _ _ (Nat.pow_pos hB), Nat.mul_comm (f k), Nat.mul_assoc, Nat.add_mul_mod_self_left]
      exact ih
    · have : i = k := by omega
      subst this
      have h1 := vs_lt (k := i) (fun j hj => h j (by omega))
      unfold dg
      rw [vs, Nat.add_mul_div_right _ _ (Nat.pow_pos hB), Nat.div_eq_of_lt h1, Nat.zero_add, Nat.mod_eq_of_lt (h i hi)]
theorem vs_dg (B n : Nat) : ∀ k, vs B (dg B n) k = n % B ^ k
  | 0 => by simp [vs, Nat.mod_one]
  | k + 1 => by rw [vs, vs_dg B n k, Nat.pow_succ, Nat.mod_mul, dg, Nat.mul_comm]
/-- The next digit of a remainder. -/
theorem mod_next (B n k : Nat) : n % B ^ (k + 1) = n % B ^ k + dg B n k * B ^ k := by
  rw [Nat.pow_succ, Nat.mod_mul, dg, Nat.mul_comm (B ^ k)]
theorem dg_mod (B n k i : Nat) (h : i < k) : dg B (n % B ^ k) i = dg B n i := by
  rcases Nat.eq_zero_or_pos B with hB | hB
  · subst hB
    rw [Nat.zero_pow (by omega), Nat.mod_zero]
  · rw [← vs_dg]
    exact dg_vs (fun j _ => dg_lt hB n j) i h
theorem dg_ext {B m n k : Nat} (hm : m < B ^ k) (hn : n < B ^ k) (h : ∀ i, i < k → dg B m i = dg B n i) : m = n := by
  have e1 := vs_dg B m k
  have e2 := vs_dg B n k
  rw [Nat.mod_eq_of_lt hm] at e1
  rw [Nat.mod_eq_of_lt hn] at e2
  rw [← e1, ← e2]
  exact vs_congr B h
theorem dg_zero (B i : Nat) : dg B 0 i = 0 := by simp [dg]
/-- Sums, digit by digit. -/
theorem add_digit (B m n i : Nat) (hB : 0 < B) : dg B (m + n) i = (dg B m i + dg B n i + (m % B ^ i + n % B ^ i) / B ^ i) % B := by
  unfold dg
  have hP : 0 < B ^ i := Nat.pow_pos hB
  generalize B ^ i = P at *
  have e : m + n = P * (m / P + n / P) + (m % P + n % P) := by
    have h1 := Nat.div_add_mod m P
    have h2 := Nat.div_add_mod n P
    rw [Nat.mul_add]
    omega
  rw [e, Nat.mul_add_div hP]
  rw [Nat.add_mod (_ + _) ((m % P + n % P) / P), Nat.add_mod (m / P) (n / P), ← Nat.add_mod]
theorem add_carry (B m n i : Nat) (hB : 0 < B) : (m % B ^ (i + 1) + n % B ^ (i + 1)) / B ^ (i + 1) = (dg B m i + dg B n i + (m % B ^ i + n % B ^ i) / B ^ i) / B := by
  rw [mod_next, mod_next]
  have hP : 0 < B ^ i := Nat.pow_pos hB
  rw [Nat.pow_succ, ← Nat.div_div_eq_div_mul]
  congr 1
  rw [show m % B ^ i + dg B m i * B ^ i + (n % B ^ i + dg B n i * B ^ i) = (m % B ^ i + n % B ^ i) + (dg B m i + dg B n i) * B ^ i by rw [Nat.add_mul]; omega, Nat.add_mul_div_right _ _ hP]
  omega
theorem carry_le (B m n i : Nat) (hB : 0 < B) : (m % B ^ i + n % B ^ i) / B ^ i ≤ 1 := by
  have hP : 0 < B ^ i := Nat.pow_pos hB
  have h1 := Nat.mod_lt m hP
  have h2 := Nat.mod_lt n hP
  have : (m % B ^ i + n % B ^ i) / B ^ i < 2 := by rw [Nat.div_lt_iff_lt_mul hP]; omega
  omega
/-- A product, digit by digit: a step of the inner loop. -/
theorem mul_step (B : Nat) (f f' g : Nat → Nat) (i k a b c s : Nat)
    (h : vs B f (i + k) + c * B ^ (i + k) = vs B g (i + k) + a * (b % B ^ k) * B ^ i)
    (hs : s = g (i + k) + a * dg B b k + c) (hf : ∀ j, j < i + k → f' j = f j) (hf2 : f' (i + k) = s % B) :
    vs B f' (i + (k + 1)) + s / B * B ^ (i + (k + 1)) = vs B g (i + (k + 1)) + a * (b % B ^ (k + 1)) * B ^ i := by
  have e1 : vs B f' (i + k) = vs B f (i + k) := vs_congr B hf
  rw [show i + (k + 1) = i + k + 1 by omega, vs, vs, e1, hf2, mod_next, Nat.pow_succ, Nat.pow_add] at *
  have e2 := Nat.div_add_mod s B
  have e3 : s % B * (B ^ i * B ^ k) + s / B * (B ^ i * B ^ k * B) = s * (B ^ i * B ^ k) := by
    conv => rhs; rw [← e2]
    rw [Nat.add_mul, Nat.mul_comm B (s / B), Nat.mul_assoc (s / B) B, Nat.mul_comm B, Nat.add_comm]
  have e4 : s * (B ^ i * B ^ k) = g (i + k) * (B ^ i * B ^ k) + a * dg B b k * (B ^ i * B ^ k) + c * (B ^ i * B ^ k) := by rw [hs, Nat.add_mul, Nat.add_mul]
  have e5 : a * (b % B ^ k + dg B b k * B ^ k) * B ^ i = a * (b % B ^ k) * B ^ i + a * dg B b k * (B ^ i * B ^ k) := by
    rw [Nat.mul_add, Nat.add_mul]
    congr 1
    rw [← Nat.mul_assoc a, Nat.mul_assoc _ (B ^ k), Nat.mul_comm (B ^ k)]
  rw [e5]
  omega
theorem mul_row (B : Nat) (f f' g : Nat → Nat) (i N a b c : Nat) (hb : b < B ^ N) (hg : vs B g (i + N) = a % B ^ i * b)
    (h : vs B f (i + N) + c * B ^ (i + N) = vs B g (i + N) + dg B a i * (b % B ^ N) * B ^ i) (hf : ∀ j, j < i + N → f' j = f j) (hf2 : f' (i + N) = c) :
    vs B f' (i + 1 + N) = a % B ^ (i + 1) * b := by
  have e1 : vs B f' (i + N) = vs B f (i + N) := vs_congr B hf
  rw [show i + 1 + N = i + N + 1 by omega, vs, e1, hf2, h, hg, mod_next, Nat.mod_eq_of_lt hb, Nat.add_mul]
  congr 1
  rw [Nat.mul_assoc, Nat.mul_comm b, ← Nat.mul_assoc]
/-- How many bits a number has. -/
def bl (n : Nat) : Nat := if n = 0 then 0 else n.log2 + 1
theorem bl_lt (n : Nat) : n < 2 ^ bl n := by
  unfold bl
  split
  · subst n; decide
  · exact Nat.lt_log2_self
theorem bl_le (n : Nat) (h : 0 < n) : 2 ^ (bl n - 1) ≤ n := by
  unfold bl
  rw [if_neg (by omega)]
  simpa using Nat.log2_self_le (by omega)
theorem bl_zero : bl 0 = 0 := rfl
theorem bl_pos (n : Nat) (h : 0 < n) : 0 < bl n := by
  unfold bl
  rw [if_neg (by omega)]
  omega
theorem bl_unique (n k : Nat) (h1 : 2 ^ k ≤ n) (h2 : n < 2 ^ (k + 1)) : bl n = k + 1 := by
  have h0 := Nat.two_pow_pos k
  have a1 := bl_lt n
  have a2 := bl_le n (by omega)
  have a3 := bl_pos n (by omega)
  have b1 : k < bl n := (Nat.pow_lt_pow_iff_right (a := 2) (by decide)).1 (Nat.lt_of_le_of_lt h1 a1)
  have b2 : bl n - 1 < k + 1 := (Nat.pow_lt_pow_iff_right (a := 2) (by decide)).1 (Nat.lt_of_le_of_lt a2 h2)
  omega
theorem bl_le_of (n k : Nat) (h : n < 2 ^ k) : bl n ≤ k := by
  rcases Nat.eq_zero_or_pos n with h0 | h0
  · subst h0; simp [bl_zero]
  · have a2 := bl_le n h0
    have b2 : bl n - 1 < k := (Nat.pow_lt_pow_iff_right (a := 2) (by decide)).1 (Nat.lt_of_le_of_lt a2 h)
    omega
theorem bl_shift (n k : Nat) (h : 2 ^ k ≤ n) : bl n = k + bl (n / 2 ^ k) := by
  have h0 := Nat.two_pow_pos k
  have hq : 0 < n / 2 ^ k := Nat.div_pos h h0
  have a1 := bl_lt (n / 2 ^ k)
  have a2 := bl_le (n / 2 ^ k) hq
  have a3 := bl_pos (n / 2 ^ k) hq
  generalize bl (n / 2 ^ k) = m at *
  obtain ⟨m, rfl⟩ : ∃ m', m = m' + 1 := ⟨m - 1, by omega⟩
  rw [Nat.add_sub_cancel] at a2
  have e := bl_unique n (k + m) (by
    rw [Nat.pow_add, Nat.mul_comm]
    exact (Nat.le_div_iff_mul_le h0).1 a2) (by
    rw [Nat.add_assoc, Nat.pow_add, Nat.mul_comm]
    exact (Nat.div_lt_iff_lt_mul h0).1 a1)
  omega
end Go.Proofs.YthlaibkdcebekaaDoor
namespace Go.Proofs.YthlaibkdcebekaaDoor
open Go.RowKit
open Go.Deep
section
set_option maxRecDepth 10000
set_option maxHeartbeats 1000000
/-- The library's table of bits. -/
theorem wpList_len8 {w : World} {ops : Array Oper} {rest : List Oper} {o : Oper} {a : Act} {Q : Exit → Act → World → Prop} (hgd : o.guard = none) (T : ByteArray) (x : Operand) (ho : o.op = .index 9 (.const (.string T)) x) (X : Int) (hx : a.eval x = .int .u8 X) (j : Nat) (hX : X = j) (hj : j < 256)
    (hT : ∀ k : Fin 256, T.data[k.val]?.map (·.toNat) = some (bl k.val))
    (h : wpList Tryd.prog ops Q rest (a.put o.dst (.int .u8 ((bl j : Nat) : Int))) w) : wpList Tryd.prog ops Q (o :: rest) a w := by
  subst hX
  refine wpList_plain hgd fun K hK => ?_
  have e := hT ⟨j, hj⟩
  simp only [Option.map_eq_some_iff] at e
  obtain ⟨b, hb, hbl⟩ := e
  have hlt : j < T.size := by
    rcases Nat.lt_or_ge j T.data.size with h' | h'
    · exact h'
    · rw [Array.getElem?_eq_none h'] at hb
      cases hb
  have hg : T[j] = b := by
    have h2 := Array.getElem?_eq_getElem (xs := T.data) (i := j) hlt
    rw [hb] at h2
    exact (Option.some.inj h2).symm
  have hr : (Instr.index 9 (.string T) (.int .u8 (j : Int))).run Tryd.prog w = .ok (.int .u8 ((bl j : Nat) : Int)) w := by
    rw [run_index_string w _ _ _ _ Tryd.underlying9, dif_pos ⟨by omega, by omega⟩]
    simp [hg, hbl]
  have hc : a.eval (.const (.string T)) = .string T := rfl
  unfold Oper.wp execOp
  simp only [ho, hc, hx, hr, Sem.run_bind, Result.andThen_ok, Sem.run_pure]
  exact hK _ _ h
theorem bl_int (Y : Int) (k : Nat) (c : Int) (hc : c = ((2 ^ k : Nat) : Int)) (h : c ≤ Y) : bl Y.toNat = k + bl (Y / c).toNat := by
  subst hc
  obtain ⟨y, rfl⟩ := Int.eq_ofNat_of_zero_le (Int.le_trans (Int.natCast_nonneg _) h)
  rw [Int.toNat_natCast, ← Int.natCast_ediv, Int.toNat_natCast]
  exact bl_shift y k (by omega)
theorem len_sum (k : Nat) (hk : k ≤ 64) (Y Z : Int) (h1 : Y < 18446744073709551616) (h : bl Z.toNat = k + bl Y.toNat) : wrap64 ((k : Int) + wrap64 ((bl Y.toNat : Nat) : Int)) = ((bl Z.toNat : Nat) : Int) := by
  have hb : bl Y.toNat ≤ 64 := bl_le_of _ 64 (by omega)
  rw [h]
  unfold wrap64
  omega
theorem len64_int (X : Int) (h0 : 0 ≤ X) (h1 : X < 18446744073709551616) (w : World) : Calls Tryd.prog 42 #[.int .u64 X] w fun e w' => e = .returned (.int .i64 ((bl X.toNat : Nat) : Int)) ∧ w' = w := by
  go_enter Tryd.func42, Tryd.ntmps42
  generalize hT0 : ByteArray.mk _ = T
  have hT : Hid (∀ k : Fin 256, T.data[k.val]?.map (·.toNat) = some (bl k.val)) := by
    subst hT0
    show ∀ k : Fin 256, _
    decide +kernel
  clear hT0
  go_wp2_with (refine wpList_len8 rfl _ _ rfl _ rfl (Int.toNat _) (Int.toNat_of_nonneg (by omega)).symm (by omega) hT.out ?_)
  all_goals go_ret
  all_goals refine ⟨ret_int ?_, rfl⟩
  · exact len_sum 56 (by omega) (X / 4294967296 / 65536 / 256) X (by omega) (by rw [bl_int X 32 4294967296 (by decide) (by omega), bl_int _ 16 65536 (by decide) (by omega), bl_int _ 8 256 (by decide) (by omega)]; omega)
  · exact len_sum 48 (by omega) (X / 4294967296 / 65536) X (by omega) (by rw [bl_int X 32 4294967296 (by decide) (by omega), bl_int _ 16 65536 (by decide) (by omega)]; omega)
  · exact len_sum 40 (by omega) (X / 4294967296 / 256) X (by omega) (by rw [bl_int X 32 4294967296 (by decide) (by omega), bl_int _ 8 256 (by decide) (by omega)]; omega)
  · exact len_sum 32 (by omega) (X / 4294967296) X (by omega) (by rw [bl_int X 32 4294967296 (by decide) (by omega)])
  · exact len_sum 24 (by omega) (X / 65536 / 256) X (by omega) (by rw [bl_int X 16 65536 (by decide) (by omega), bl_int _ 8 256 (by decide) (by omega)]; omega)
  · exact len_sum 16 (by omega) (X / 65536) X (by omega) (by rw [bl_int X 16 65536 (by decide) (by omega)])
  · exact len_sum 8 (by omega) (X / 256) X (by omega) (by rw [bl_int X 8 256 (by decide) (by omega)])
  · have := len_sum 0 (by omega) X X h1 (by omega)
    simpa using this
theorem len_any (x : Nat) (h1 : x < 18446744073709551616) (w : World) : Calls Tryd.prog 31 #[.int .u64 (x : Int)] w fun e w' => e = .returned (.int .i64 ((bl x : Nat) : Int)) ∧ w' = w := by
  have HL := hide fun W => len64_int (x : Int) (by omega) (by omega) W
  rw [Int.toNat_natCast] at HL
  clear h1
  go_enter Tryd.func31, Tryd.ntmps31
  go_wp2_with (go_at_call 42; refine (HL.out _).mono ?_; rintro e w3 ⟨rfl, hw3⟩; subst w3)
  go_ret
  exact ⟨rfl, rfl⟩
/-- How many levels there are above n ids. -/
def dp (n : Nat) : Nat := if n < 2 then 0 else bl (n - 1)
theorem dp_step (n : Nat) (h : 2 ≤ n) : dp n = dp ((n + 1) / 2) + 1 := by
  unfold dp
  rw [if_neg (by omega)]
  by_cases h2 : n = 2
  · subst h2
    decide
  · rw [if_neg (by omega), show (n + 1) / 2 - 1 = (n - 1) / 2 by omega]
    have := bl_shift (n - 1) 1 (by omega)
    rw [this, Nat.pow_one]
    omega
theorem dp_low (n : Nat) (h : n < 2) : dp n = 0 := by unfold dp; rw [if_pos h]
theorem dp_le (n : Nat) (h : n < 4294967296) : dp n ≤ 32 := by
  unfold dp
  split
  · omega
  · exact bl_le_of _ 32 (by omega)
theorem depth_any (n : Nat) (h : n < 4294967296) (w : World) : Calls Tryd.prog 17 #[.int .i64 (n : Int)] w fun e w' => e = .returned (.int .i64 ((dp n : Nat) : Int)) ∧ w' = w := by
  by_cases h2 : n < 2
  · rw [dp_low n h2]
    have h3 : (n : Int) < 2 := by omega
    clear h h2
    go_enter Tryd.func17, Tryd.ntmps17
    go_wp2
    go_ret
    exact ⟨rfl, rfl⟩
  · have h3 : ¬ (n : Int) < 2 := by omega
    have HL := hide fun W => len_any (n - 1) (by omega) W
    rw [show bl (n - 1) = dp n by unfold dp; rw [if_neg h2]] at HL
    have e1 : IntKind.i64.wrap ((n : Int) - 1) = ((n - 1 : Nat) : Int) := by rw [wrapI _ (by omega) (by omega)]; omega
    have e2 : IntKind.u64.wrap ((n - 1 : Nat) : Int) = ((n - 1 : Nat) : Int) := wrapu _ (by omega) (by omega)
    clear h h2
    generalize n - 1 = p at *
    go_enter Tryd.func17, Tryd.ntmps17
    go_wp2_with (go_at_call 31; refine (HL.out _).mono ?_; rintro e w3 ⟨rfl, hw3⟩; subst w3)
    go_ret
    exact ⟨rfl, rfl⟩
theorem rdepth_any (n : Nat) (h : n < 4294967296) (w : World) : Calls Tryd.prog 26 #[.int .i64 (n : Int)] w fun e w' => e = .returned (.int .i64 ((dp n : Nat) : Int)) ∧ w' = w := by
  have HD := hide (dp_le n h)
  have HN := hide h
  clear h
  go_enter Tryd.func26, Tryd.ntmps26
  go_wp2
  go_loop [0, 3] (fun x d => ∃ m k : Nat, m < 4294967296 ∧ x = .int .i64 (m : Int) ∧ d = .int .i64 (k : Int) ∧ Hid (dp m + k = dp n)) (fun x _ => (intOf x).toNat)
  case atStart => exact ⟨n, 0, HN.out, rfl, rfl, rfl⟩
  case round =>
    obtain ⟨m, k, hm, rfl, rfl, HW⟩ := hrel
    have hd := HD.out
    have hw := HW.out
    by_cases hlt : 1 < m
    · have h1 : (1 : Int) < (m : Int) := by omega
      have hs := dp_step m hlt
      have e1 : IntKind.i64.wrap ((m : Int) / 2 + (m : Int) % 2) = (((m + 1) / 2 : Nat) : Int) := by rw [wrapI _ (by omega) (by omega)]; omega
      have hjw : IntKind.i64.wrap ((k : Int) + 1) = k + 1 := wrapI _ (by omega) (by omega)
      have HW2 := hide (show dp ((m + 1) / 2) + (k + 1) = dp n by omega)
      have m0 : (0 : Int) ≤ m := by omega
      clear hs hw HW hd
      go_wp2
      go_round
      case rel => exact ⟨(m + 1) / 2, k + 1, by omega, by first | rfl | (congr 1; omega), by go_num, HW2⟩
      case measure => simp [intOf]; omega
    · have h1 : ¬ (1 : Int) < (m : Int) := by omega
      have hs := dp_low m (by omega)
      have HE := hide (show k = dp n by omega)
      clear hs hw HW hd hlt
      go_wp2
      go_ret
      exact ⟨by rw [HE.out]; rfl, rfl⟩
end
end Go.Proofs.YthlaibkdcebekaaDoor
namespace Go.Proofs.YthlaibkdcebekaaDoor
open Go.RowKit
open Go.Deep
/-- The level k of a list. -/
def lv (L : List (List UInt8)) : Nat → List (List UInt8)
  | 0 => L
  | k + 1 => nxt (lv L k)
theorem lv_32 {L : List (List UInt8)} (h : H32 L) : ∀ k, H32 (lv L k)
  | 0 => h
  | _ + 1 => nxt_32 _
theorem lv_le (L : List (List UInt8)) : ∀ k, (lv L k).length ≤ L.length
  | 0 => Nat.le_refl _
  | k + 1 => by
    rw [lv, nxt_len]
    have := lv_le L k
    omega
/-- Whether a level below k has two same ones. -/
def muK (L : List (List UInt8)) : Nat → Bool
  | 0 => false
  | k + 1 => muK L k || twb (lv L k)
/-- The root, and whether a list is mutated. -/
def rtL (L : List (List UInt8)) : List UInt8 := if L = [] then zeros else ia (lv L (dp L.length)) 0
def muL (L : List (List UInt8)) : Bool := muK L (dp L.length)
theorem lv_pos (L : List (List UInt8)) (h : 0 < L.length) : ∀ k, 0 < (lv L k).length
  | 0 => h
  | k + 1 => by
    rw [lv, nxt_len]
    have := lv_pos L h k
    omega
theorem rtL_len {L : List (List UInt8)} (h : H32 L) : (rtL L).length = 32 := by
  unfold rtL
  split
  · exact zeros_len
  · rename_i h0
    exact (lv_32 h _).at 0 (lv_pos L (by rcases L with _ | ⟨a, r⟩; exact absurd rfl h0; simp) _)
theorem resAB {t : TypeId} {n : Nat} {z : Array Value} (A : Arr t n z) {fn : Func} {p u : Tmp} (hf : fn.results = #[.cell p t, .tmp u]) (tmps : Array Value) (w : World) (g : Nat) (t' : TypeId) (c : Array Value) (hn : c.size = n)
    (hp : tmps.getD p undef = .pointer (some ⟨g, 0, none⟩)) (hg : w.heap[g]? = some (.cells c t' (0, 0))) (x : Value) (hx : tmps.getD u undef = x) : (results fn tmps).run Tryd.prog w = .ok (.tuple #[.agg c, x]) w := by
  subst hx
  have hp' : tmps[p]?.getD undef = .pointer (some ⟨g, 0, none⟩) := by simpa using hp
  rcases A.und with ⟨m, e, hd⟩ | ⟨fs, hd⟩ <;> simp [results, hf, hp', asAddr, run_loadVar_row w g t' t c (0, 0) _ hg hd rfl (by rw [A.info, hn])]
def lenV2 : Value → Nat
  | .slice _ n _ => n
  | _ => 0
/-- A level, and an answer's place. -/
structure Rj (w W : World) (v : Value) (L : List (List UInt8)) : Prop where
  lh : LH W v L
  r : W.heap[w.heap.size]? = some (.cells (hc zeros) 39 (0, 0))
  bel : Below w.heap.size w W
theorem Rj.next {w W W' : World} {v : Value} {L : List (List UInt8)} (j : Rj w W v L) (h : Below W.heap.size W W') : Rj w W' v L := ⟨j.lh.below h, (h.block _ (lt_heap j.r)).trans j.r, below_next j.bel h⟩
theorem Rj.level {w W W' : World} {v v' : Value} {L L' : List (List UInt8)} (j : Rj w W v L) (o : Oj 39 W W' v' L') : Rj w W' v' L' := ⟨o.own.read, (o.bel.block _ (lt_heap j.r)).trans j.r, below_next j.bel o.bel⟩
section
set_option maxRecDepth 10000
set_option maxHeartbeats 2000000
theorem root_none (v : Value) (w : World) (hL : LH w v []) : Calls Tryd.prog 14 #[v] w fun e w' => e = .returned (.tuple #[.agg (hc zeros), .bool false]) ∧ Below w.heap.size w w' := by
  obtain ⟨ao, cap, rfl⟩ := hL.form
  have R0 := hide (heap_alloc_last w (.cells (hc zeros) 39))
  have B0 := hide ((Below.refl w.heap.size w).alloc (Nat.le_refl _) (.cells (hc zeros) 39))
  rw [List.length_nil]
  clear hL
  go_enter Tryd.func14, Tryd.ntmps14
  go_upto_region 1 with (refine wpList_allocA A25 rfl rfl ?_)
  generalize w.alloc (.cells (hc zeros) 39) = W0 at *
  go_wp2_with (first | refine wpList_buildA A25 rfl rfl ?_ | refine wpList_storeA A25 rfl _ _ rfl _ (hc zeros) (by rw [hc_size, zeros_len]) (hc_one _) rfl rfl (hc zeros) (by rw [hc_size, zeros_len]) 39 R0.out ?_)
  exact bodyPost_ret (v := .tuple #[.agg (hc zeros), .bool false]) (resAB A25 Tryd.results14 _ _ w.heap.size 39 (hc zeros) (by rw [hc_size, zeros_len]) rfl (setRow_heap _ _ _ _ _ _ R0.out) _ (by rfl)) rfl ⟨rfl, below_setRow B0.out (Nat.le_refl _) _⟩
theorem root_some (v : Value) (L : List (List UInt8)) (w : World) (hL : LH w v L) (h0 : 0 < L.length) (hn : L.length < 4294967296) (hK : Kg w) : Calls Tryd.prog 14 #[v] w fun e w' => e = .returned (.tuple #[.agg (hc (rtL L)), .bool (muL L)]) ∧ Below w.heap.size w w' := by
  obtain ⟨ao, cap, rfl⟩ := hL.form
  have J0 : Hid (Rj w (w.alloc (.cells (hc zeros) 39)) (.slice ao L.length cap) (lv L 0)) := ⟨hL.below ((Below.refl _ _).alloc (Nat.le_refl _) _), heap_alloc_last w _, (Below.refl _ _).alloc (Nat.le_refl _) _⟩
  have KW : Hid (∀ W, Below w.heap.size w W → Kg W) := fun W h => hK.next h
  have HN := hide (And.intro h0 hn)
  have H3 := hide hL.1
  have RL := hide (rtL_len hL.1)
  have hne : ((L.length : Int) == 0) = false := by rw [beq_eq_false_iff_ne]; omega
  clear hL hK h0 hn
  go_enter Tryd.func14, Tryd.ntmps14
  go_upto_region 1 with (refine wpList_allocA A25 rfl rfl ?_)
  generalize w.alloc (.cells (hc zeros) 39) = W0 at *
  go_wp2
  go_loopw [4, 5] (fun v m wr => ∃ k : Nat, m = .bool (muK L k) ∧ Hid (Rj w wr v (lv L k)) ∧ Hid (dp (lv L k).length + k = dp L.length)) (fun v _ _ => lenV2 v)
  case atStart => exact ⟨0, rfl, J0, rfl⟩
  case round =>
    clear J0
    obtain ⟨k, rfl, J, HD⟩ := hrel
    obtain ⟨ao4, cap4, rfl⟩ := J.out.lh.form
    have hle := lv_le L k
    have hpos := lv_pos L HN.out.1 k
    have hn := HN.out.2
    by_cases hlt : 1 < (lv L k).length
    · have h1 : (1 : Int) < ((lv L k).length : Int) := by omega
      have HD2 : Hid (dp (lv L (k + 1)).length + (k + 1) = dp L.length) := by
        show _ = _
        rw [← HD.out, dp_step _ hlt, lv, nxt_len]
        omega
      have HS := hide (show muK L (k + 1) = (muK L k || twb (lv L k)) from rfl)
      have HTw := hide fun W hW => twins_any (.slice ao4 (lv L k).length cap4) (lv L k) W hW (by omega)
      have HAb := hide fun W hW hK => above_any (.slice ao4 (lv L k).length cap4) (lv L k) W hW (by omega) hK
      rw [show nxt (lv L k) = lv L (k + 1) from rfl] at HAb
      have ME := hide (show (lv L (k + 1)).length < (lv L k).length by rw [lv, nxt_len]; omega)
      generalize muK L k = mu at *
      generalize twb (lv L k) = tb at *
      clear hlt hle hpos hn hne
      cases mu
      case' false =>
        go_upto_region 6 with (first | (go_at_call 27; refine (HTw.out _ J.out.lh).mono ?_; rintro e w1 ⟨rfl, be⟩; have J1 := hide (J.out.next be); clear be))
        rw [Bool.false_or] at HS
        clear J
        generalize w1 = W1 at *
      case' true =>
        go_upto_region 6 with fail
        rw [Bool.true_or] at HS
        have J1 := J
        clear J
        generalize wr = W1 at *
      all_goals
        go_wp2_with (first | (go_at_call 28; refine (HAb.out _ J1.out.lh (KW.out _ J1.out.bel)).mono ?_; rintro e w2 ⟨v2, rfl, o2⟩; have J2 := hide (J1.out.level o2); clear o2))
        obtain ⟨ao2, cap2, rfl⟩ := J2.out.lh.form
        exact ⟨⟨k + 1, by rw [HS.out], J2, HD2⟩, by simpa [lenV2] using ME.out⟩
    · have h1 : ¬ (1 : Int) < ((lv L k).length : Int) := by omega
      have hl1 : (lv L k).length = 1 := by omega
      have hk : k = dp L.length := by
        have := HD.out
        rw [hl1, dp_low 1 (by omega)] at this
        omega
      have hrt : rtL L = ia (lv L k) 0 := by
        unfold rtL
        rw [if_neg (fun h => by rw [h] at hpos; have := HN.out.1; rw [h] at this; simp at this), hk]
      have hmu : muL L = muK L k := by unfold muL; rw [hk]
      obtain ⟨g, off, rfl⟩ := J.out.lh.base hpos
      have R1 := hide (J.out.lh.range 0 hpos)
      rw [← hrt] at R1
      have h2 : (0 : Int) < ((lv L k).length : Int) := by omega
      rw [← hmu]
      generalize hrr : rtL L = rr at *
      generalize hmm : muL L = mm at *
      have HE := hide (And.intro hrr hmm)
      clear hk hrt hmu hlt hle hn hl1 hne hrr hmm
      go_wp2_with (first | refine ET.wpLoad EH rfl _ rfl g _ rfl rr RL.out R1.out ?_ | refine wpList_storeA A25 rfl _ _ rfl _ (hc rr) (by rw [hc_size, RL.out]) (hc_one _) rfl rfl (hc zeros) (by rw [hc_size, zeros_len]) 39 J.out.r ?_)
      exact bodyPost_ret (v := .tuple #[.agg (hc rr), .bool mm]) (resAB A25 Tryd.results14 _ _ w.heap.size 39 (hc rr) (by rw [hc_size, RL.out]) rfl (setRow_heap _ _ _ _ _ _ J.out.r) _ (by rfl)) rfl ⟨by rw [HE.out.1, HE.out.2], below_setRow J.out.bel (Nat.le_refl _) _⟩
end
end Go.Proofs.YthlaibkdcebekaaDoor
