/- Words of 64 bits; four of them in a block; RotateLeft64 and the document's turn. -/
import Derived.Test.YtpjpnkohagcegaaDoorO0
namespace Go.Proofs.YtpjpnkohagcegaaDoor
open Go.RowKit
open Go.Deep
theorem wrapQ (x : Int) : IntKind.u64.wrap x = x % 18446744073709551616 := by
  simp [IntKind.wrap, IntKind.signed, IntKind.bits]
theorem ofInt64 (a : Nat) (ha : a < 18446744073709551616) : (BitVec.ofInt 64 (a : Int)).toNat = a := by
  rw [BitVec.ofInt_natCast, BitVec.toNat_ofNat]; exact Nat.mod_eq_of_lt (by omega)
theorem xor_nat64 (a b : Nat) (ha : a < 18446744073709551616) (hb : b < 18446744073709551616) : bits .xor .u64 (a : Int) (b : Int) = ((a ^^^ b : Nat) : Int) := by
  have hx : a ^^^ b < 2 ^ 64 := Nat.xor_lt_two_pow (by omega) (by omega)
  show IntKind.u64.wrap ((BitVec.ofInt 64 (a : Int) ^^^ BitVec.ofInt 64 (b : Int)).toNat : Int) = _
  rw [BitVec.toNat_xor, ofInt64 a ha, ofInt64 b hb, wrapQ]
  omega
theorem and_nat64 (a b : Nat) (ha : a < 18446744073709551616) (hb : b < 18446744073709551616) : bits .and .u64 (a : Int) (b : Int) = ((a &&& b : Nat) : Int) := by
  have hx : a &&& b < 2 ^ 64 := Nat.and_lt_two_pow _ (by omega)
  show IntKind.u64.wrap ((BitVec.ofInt 64 (a : Int) &&& BitVec.ofInt 64 (b : Int)).toNat : Int) = _
  rw [BitVec.toNat_and, ofInt64 a ha, ofInt64 b hb, wrapQ]
  omega
theorem or_nat64 (a b : Nat) (ha : a < 18446744073709551616) (hb : b < 18446744073709551616) : bits .or .u64 (a : Int) (b : Int) = ((a ||| b : Nat) : Int) := by
  have hx : a ||| b < 2 ^ 64 := Nat.or_lt_two_pow (by omega) (by omega)
  show IntKind.u64.wrap ((BitVec.ofInt 64 (a : Int) ||| BitVec.ofInt 64 (b : Int)).toNat : Int) = _
  rw [BitVec.toNat_or, ofInt64 a ha, ofInt64 b hb, wrapQ]
  omega
theorem xorQ (x y : UInt64) : bits .xor .u64 (x.toNat : Int) (y.toNat : Int) = ((x ^^^ y).toNat : Int) := by
  rw [xor_nat64 _ _ x.toNat_lt y.toNat_lt, UInt64.toNat_xor]
theorem orQ (x y : UInt64) : bits .or .u64 (x.toNat : Int) (y.toNat : Int) = ((x ||| y).toNat : Int) := by
  rw [or_nat64 _ _ x.toNat_lt y.toNat_lt, UInt64.toNat_or]
theorem addQ (x y : UInt64) : ((x.toNat : Int) + (y.toNat : Int)) % 18446744073709551616 = ((x + y).toNat : Int) := by
  rw [UInt64.toNat_add]
  simp
/-- A word turned to the left by one. -/
def rot1 (x : UInt64) : UInt64 := UInt64.ofNat (x.toNat * 2 % 18446744073709551616 + x.toNat / 9223372036854775808)
/-- A word turned to the left. -/
def rot (x : UInt64) : Nat → UInt64
  | 0 => x
  | n + 1 => rot1 (rot x n)
theorem rot1_toNat (x : UInt64) : (rot1 x).toNat = x.toNat * 2 % 18446744073709551616 + x.toNat / 9223372036854775808 := by
  have := x.toNat_lt
  rw [rot1, UInt64.toNat_ofNat']
  omega
theorem rot_step (y n i : Nat) (hn : n < 18446744073709551616) (hi : i < 32) (hy : y = n * 2 ^ i % 18446744073709551616 + n / 2 ^ (64 - i)) : y * 2 % 18446744073709551616 + y / 9223372036854775808 = n * 2 ^ (i + 1) % 18446744073709551616 + n / 2 ^ (64 - (i + 1)) := by
  have hA : 0 < 2 ^ i := Nat.two_pow_pos _
  have hB : 0 < 2 ^ (63 - i) := Nat.two_pow_pos _
  have e64 : (18446744073709551616 : Nat) = 2 ^ i * 2 ^ (63 - i) * 2 := by rw [← Nat.pow_add, ← Nat.pow_succ, show (i + (63 - i)).succ = 64 by omega]
  have e63 : (9223372036854775808 : Nat) = 2 ^ i * 2 ^ (63 - i) := by rw [← Nat.pow_add, show i + (63 - i) = 63 by omega]
  have eB : 2 ^ (64 - i) = 2 ^ (63 - i) * 2 := by rw [← Nat.pow_succ, show (63 - i).succ = 64 - i by omega]
  have eC : 64 - (i + 1) = 63 - i := by omega
  rw [e64, eB] at hy
  rw [e64] at hn
  rw [e64, e63, eC, Nat.pow_succ]
  clear e64 e63 eB eC
  generalize 2 ^ i = A at *
  generalize 2 ^ (63 - i) = B at *
  have h1 : n * A % (A * B * 2) = A * (n % B + B * (n / B % 2)) := by
    rw [Nat.mul_comm n A, Nat.mul_assoc, Nat.mul_mod_mul_left, Nat.mod_mul]
  have h2 : n / (B * 2) = n / B / 2 := (Nat.div_div_eq_div_mul _ _ _).symm
  have h3 : n * (A * 2) % (A * B * 2) = A * (n % B) * 2 := by
    rw [← Nat.mul_assoc, Nat.mul_mod_mul_right, Nat.mul_comm n A, Nat.mul_mod_mul_left]
  have hq : n / B / 2 < A := by
    rw [Nat.div_lt_iff_lt_mul (by decide), Nat.div_lt_iff_lt_mul hB]
    calc n < A * B * 2 := hn
      _ = A * 2 * B := by rw [Nat.mul_right_comm]
  have hr : n % B < B := Nat.mod_lt _ hB
  rw [h1, h2, Nat.mul_add, ← Nat.mul_assoc] at hy
  have hs : A * (n % B) + n / B / 2 < A * B := by
    calc A * (n % B) + n / B / 2 < A * (n % B) + A := by omega
      _ = A * (n % B + 1) := by rw [Nat.mul_add, Nat.mul_one]
      _ ≤ A * B := Nat.mul_le_mul_left _ hr
  have hy2 : y = A * B * (n / B % 2) + (A * (n % B) + n / B / 2) := by omega
  have hd : y / (A * B) = n / B % 2 := by
    rw [hy2, Nat.mul_add_div (Nat.mul_pos hA hB), Nat.div_eq_of_lt hs, Nat.add_zero]
  have hm : y % (A * B) = A * (n % B) + n / B / 2 := by
    rw [hy2, Nat.mul_add_mod, Nat.mod_eq_of_lt hs]
  rw [h3, Nat.mul_mod_mul_right, hd, hm]
  omega
theorem rot_toNat (x : UInt64) (i : Nat) (hi : i ≤ 32) : (rot x i).toNat = x.toNat * 2 ^ i % 18446744073709551616 + x.toNat / 2 ^ (64 - i) := by
  have hx := x.toNat_lt
  induction i with
  | zero =>
    rw [rot]
    simp only [Nat.pow_zero, Nat.mul_one, Nat.sub_zero, Nat.reducePow]
    omega
  | succ i ih =>
    rw [rot, rot1_toNat]
    exact rot_step _ _ i (by omega) (by omega) (ih (by omega))
theorem rot_or (x : UInt64) (i : Nat) (h1 : 1 ≤ i) (hi : i ≤ 32) : bits .or .u64 ((x.toNat : Int) * 2 ^ i % 18446744073709551616) ((x.toNat : Int) / 2 ^ (64 - i)) = ((rot x i).toNat : Int) := by
  have hx := x.toNat_lt
  rw [rot_toNat x i hi]
  have e1 : ((x.toNat : Int) * 2 ^ i % 18446744073709551616) = ((x.toNat * 2 ^ i % 18446744073709551616 : Nat) : Int) := by simp
  have e2 : ((x.toNat : Int) / 2 ^ (64 - i)) = ((x.toNat / 2 ^ (64 - i) : Nat) : Int) := by simp
  have hlt : x.toNat / 2 ^ (64 - i) < 2 ^ i := by
    rw [Nat.div_lt_iff_lt_mul (Nat.two_pow_pos _), ← Nat.pow_add, show i + (64 - i) = 64 by omega]
    exact hx
  have hle : 2 ^ i ≤ 2 ^ 32 := Nat.pow_le_pow_right (by decide) hi
  have hm : x.toNat * 2 ^ i % 18446744073709551616 = (x.toNat % 2 ^ (64 - i)) * 2 ^ i := by
    rw [show (18446744073709551616 : Nat) = 2 ^ (64 - i) * 2 ^ i by rw [← Nat.pow_add, show 64 - i + i = 64 by omega], Nat.mul_mod_mul_right]
  rw [e1, e2, or_nat64 _ _ (Nat.mod_lt _ (by decide)) (by omega)]
  congr 1
  rw [hm, Nat.mul_comm (_ % _), ← Nat.two_pow_add_eq_or_of_lt hlt]
theorem and63 : ∀ i : Fin 64, bits .and .u64 (i.val : Int) 63 = (i.val : Int) := by decide +kernel
theorem wrap64 (i : Nat) (h : i < 64) : IntKind.u64.wrap (i : Int) = (i : Int) := wrapu _ (by omega) (by omega)
set_option maxHeartbeats 400000 in
theorem rotl_any64 (x : UInt64) (i : Nat) (K : Int) (hK : K = (i : Int)) (h1 : 1 ≤ i) (h2 : i ≤ 32) (w : World) :
    Calls Tryd.prog 60 #[.int .u64 (x.toNat : Int), .int .i64 K] w fun e w' => e = .returned (.int .u64 ((rot x i).toNat : Int)) ∧ w' = w := by
  subst hK
  have ha := and63 ⟨i, by omega⟩
  simp only at ha
  have hw := wrap64 i (by omega)
  have e1 : (64 - (i : Int)).toNat = 64 - i := by omega
  have e2 : IntKind.u64.wrap (64 - (i : Int)) = 64 - (i : Int) := wrapu _ (by omega) (by omega)
  go_enter Tryd.func60, Tryd.ntmps60
  go_wp2
  go_ret
  exact ⟨ret_int (rot_or x i h1 h2), rfl⟩
theorem rot1_int (x : UInt64) : ((x.toNat : Int) * 2 + (x.toNat : Int) / 9223372036854775808) % 18446744073709551616 = ((rot1 x).toNat : Int) := by
  have hx := x.toNat_lt
  rw [rot1_toNat]
  omega
set_option maxHeartbeats 400000 in
theorem turn_any64 (x : UInt64) (n : Nat) (K : Int) (hK : K = (n : Int)) (hn : n ≤ 64) (w : World) :
    Calls Tryd.prog 49 #[.int .u64 (x.toNat : Int), .int .i64 K] w fun e w' => e = .returned (.int .u64 ((rot x n).toNat : Int)) ∧ w' = w := by
  subst hK
  go_enter Tryd.func49, Tryd.ntmps49
  go_wp2
  go_loopw [0, 5] (fun c d wr => ∃ i : Nat, i ≤ n ∧ c = .int .u64 ((rot x i).toNat : Int) ∧ d = .int .i64 i ∧ wr = w) (fun _ d _ => (n - intOf d).toNat)
  case atStart => exact ⟨0, by omega, rfl, rfl, rfl⟩
  case round =>
    obtain ⟨i, hi, rfl, rfl, rfl⟩ := hrel
    by_cases hlt : i < n
    · have e := rot1_int (rot x i)
      go_wp2
      exact ⟨⟨i + 1, by omega, by rw [rot]; first | rfl | (rw [← e]; congr 1), by go_num, trivial⟩, by simp [intOf]; omega⟩
    · have : i = n := by omega
      subst this
      go_wp2
      go_ret
      exact ⟨rfl, rfl⟩
end Go.Proofs.YtpjpnkohagcegaaDoor
