/- The walk of the law NumCounts. -/
import Derived.Test.YtnmffnefkokkeaaD
namespace Go.Proofs.Ytnmffnefkokkeaa
open Go.RowKit

theorem getL_lowL (n k : Nat) : getL (lowL n k) = n % 256 ^ k := by
  induction k generalizing n with
  | zero => simp [getL, lowL, Nat.mod_one]
  | succ k ih =>
    simp only [lowL, getL, ih]
    rw [UInt8.toNat_ofNat', show (256 : Nat) ^ (k + 1) = 256 * 256 ^ k from by rw [Nat.pow_succ, Nat.mul_comm], Nat.mod_mul]
    omega
theorem str_at (m : UInt8) (l : List UInt8) (h : 0 < (⟨(m :: l).toArray⟩ : ByteArray).size) : (⟨(m :: l).toArray⟩ : ByteArray)[0] = m := rfl
theorem takeC_mark (m : UInt8) (n long : Nat) (hm : (m.toNat = 253 ∧ long = 2) ∨ (m.toNat = 254 ∧ long = 4) ∨ (m.toNat = 255 ∧ long = 8)) (hn : n < 256 ^ long) (hc : clong n = 1 + long) :
    takeC ⟨(m :: lowL n long).toArray⟩ 0 = ((n : Int), 1 + (long : Int), 0) := by
  have hz : (⟨(m :: lowL n long).toArray⟩ : ByteArray).size = long + 1 := by
    show (m :: lowL n long).toArray.size = _
    simp [lowL_len]
  have hna : numAt ⟨(m :: lowL n long).toArray⟩ 0 long = n := by
    unfold numAt
    simp only [List.drop_succ_cons, List.drop_zero]
    rw [List.take_of_length_le (by rw [lowL_len]; exact Nat.le_refl _), getL_lowL, Nat.mod_eq_of_lt hn]
  have := takeC_ok ⟨(m :: lowL n long).toArray⟩ 0 long (by omega) hm (by omega) (by rw [hna]; exact hc)
  rw [hna] at this
  simpa using this
theorem takeC_count (n : Nat) (hn : U64 n) : takeC ⟨(countL n).toArray⟩ 0 = ((n : Int), clong n, 0) := by
  have hn' := hn.lt
  by_cases h1 : n < 253
  · have a : countL n = lowL n 1 := by unfold countL; rw [if_pos h1]
    have b : clong n = 1 := by unfold clong; rw [if_pos (by omega)]
    have e : (UInt8.ofNat (n % 256)).toNat = n := by rw [UInt8.toNat_ofNat']; omega
    rw [a, b]
    have := takeC_one ⟨(lowL n 1).toArray⟩ 0 (by show 0 < (lowL n 1).toArray.size; simp [lowL_len]) (by show (UInt8.ofNat (n % 256)).toNat < 253; omega)
    rw [show ((0 : Nat) : Int) = 0 from rfl] at this
    rw [this]
    show ((((UInt8.ofNat (n % 256)).toNat : Nat) : Int), _, _) = _
    rw [e]; rfl
  by_cases h2 : n ≤ 65535
  · have a : countL n = 253 :: lowL n 2 := by unfold countL; rw [if_neg h1, if_pos h2]
    have b : clong n = 3 := by unfold clong; rw [if_neg (by omega), if_pos (by omega)]
    rw [a, takeC_mark 253 n 2 (by decide) (by omega) b, b]; rfl
  by_cases h3 : n ≤ 4294967295
  · have a : countL n = 254 :: lowL n 4 := by unfold countL; rw [if_neg h1, if_neg h2, if_pos h3]
    have b : clong n = 5 := by unfold clong; rw [if_neg (by omega), if_neg (by omega), if_pos (by omega)]
    rw [a, takeC_mark 254 n 4 (by decide) (by omega) b, b]; rfl
  · have a : countL n = 255 :: lowL n 8 := by unfold countL; rw [if_neg h1, if_neg h2, if_neg h3]
    have b : clong n = 9 := by unfold clong; rw [if_neg (by omega), if_neg (by omega), if_neg (by omega)]
    rw [a, takeC_mark 255 n 8 (by decide) (by omega) b, b]; rfl
theorem clong_le (n : Int) : clong n ≤ 9 := by unfold clong; repeat' split <;> omega

set_option maxRecDepth 10000 in
set_option maxHeartbeats 400000 in
theorem numCounts_walk (n : Nat) (hn : U64 n) (s : ByteArray) (p : Int) (hs : s.size ≤ maxLen) (w : World) :
    Calls Try.prog 3 #[.int .u64 n, .string s, .int .i64 p] w fun e w' => e = .returned (.bool true) ∧ Below w.heap.size w w' := by
  have hsz : (⟨(countL n).toArray⟩ : ByteArray).size ≤ maxLen := by
    show (countL n).toArray.size ≤ maxLen
    have h1 := countL_len n
    have h2 := clong_le n
    simp only [List.size_toArray]
    unfold maxLen
    omega
  have h8b : Hid (∀ w, Calls Try.prog 8 #[.string ⟨(countL n).toArray⟩, .int .i64 0] w fun e w' => e = .returned (.tuple #[.int .u64 n, .int .i64 (clong n), .int .i64 0]) ∧ w' = w) := by
    intro w
    have := takeCount_any ⟨(countL n).toArray⟩ 0 w hsz
    rw [takeC_count n hn] at this
    exact this
  obtain ⟨t1, t2, t3, ht⟩ : ∃ t1 t2 t3, takeC s p = (t1, t2, t3) := ⟨_, _, _, rfl⟩
  have h8 : Hid (∀ w, Calls Try.prog 8 #[.string s, .int .i64 p] w fun e w' => e = .returned (.tuple #[.int .u64 t1, .int .i64 t2, .int .i64 t3]) ∧ w' = w) := by
    intro w
    have := takeCount_any s p w hs
    rw [ht] at this
    exact this
  have h9 : Hid (∀ w, Calls Try.prog 9 #[.string s, .int .i64 p] w fun e w' => e = .returned (.tuple #[.int .u64 t1, .int .i64 t2, .int .i64 t3]) ∧ Below w.heap.size w w') := by
    intro w
    have := rtakeCount_any s p w hs
    rw [ht] at this
    exact this
  have hl := countL_len n
  clear ht hsz
  go_enter Try.func3, Try.ntmps3
  go_wp2_with fail
  refine (h8.out _).mono ?_
  rintro e w1 ⟨rfl, rfl⟩
  go_wp2_with fail
  refine (h9.out _).mono ?_
  rintro e w2 ⟨rfl, b2⟩
  go_wp2_with fail
  refine (rcount_any n hn _).mono ?_
  rintro e w3 ⟨rfl, b3⟩
  go_wp2_with fail
  refine (h8b.out _).mono ?_
  rintro e w4 ⟨rfl, rfl⟩
  go_wp2_with fail
  refine (awake_any _).mono ?_
  rintro e w5 ⟨rfl, b5⟩
  go_wp2_with fail
  refine (count_any n hn _).mono ?_
  rintro e w6 ⟨rfl, b6⟩
  go_wp2_with fail
  refine (countLong_any n _).mono ?_
  rintro e w7 ⟨rfl, rfl⟩
  go_wp2
  go_ret
  refine ⟨rfl, ?_⟩
  exact ((b2.trans (b3.mono b2.size)).trans (b5.mono (Nat.le_trans b2.size b3.size))).trans (b6.mono (Nat.le_trans (Nat.le_trans b2.size b3.size) b5.size))
end Go.Proofs.Ytnmffnefkokkeaa
