/- The contracts of the two TakeCount. -/
import Derived.Test.YtnmffnefkokkeaaB
namespace Go.Proofs.Ytnmffnefkokkeaa
open Go.RowKit

/-- What is taken of a text as a count: the number, the place behind it, the error. -/
def takeC (s : ByteArray) (p : Int) : Int × Int × Int :=
  if p < 0 ∨ (s.size : Int) < p then (0, 0, 1) else
  if p = s.size then (0, 0, 4) else
  if (s.data.toList.getD p.toNat 0).toNat < 253 then (((s.data.toList.getD p.toNat 0).toNat : Int), p + 1, 0) else
  if s.size - p.toNat - 1 < (if (s.data.toList.getD p.toNat 0).toNat = 253 then 2 else if (s.data.toList.getD p.toNat 0).toNat = 254 then 4 else 8) then (0, 0, 4) else
  if clong (getL ((s.data.toList.drop (p.toNat + 1)).take (if (s.data.toList.getD p.toNat 0).toNat = 253 then 2 else if (s.data.toList.getD p.toNat 0).toNat = 254 then 4 else 8))) ≠ 1 + (if (s.data.toList.getD p.toNat 0).toNat = 253 then 2 else if (s.data.toList.getD p.toNat 0).toNat = 254 then 4 else 8) then (0, 0, 6) else
  ((getL ((s.data.toList.drop (p.toNat + 1)).take (if (s.data.toList.getD p.toNat 0).toNat = 253 then 2 else if (s.data.toList.getD p.toNat 0).toNat = 254 then 4 else 8)) : Int), p + 1 + (if (s.data.toList.getD p.toNat 0).toNat = 253 then 2 else if (s.data.toList.getD p.toNat 0).toNat = 254 then 4 else 8), 0)
/-- The number that stands behind a mark. -/
def numAt (s : ByteArray) (k long : Nat) : Nat := getL ((s.data.toList.drop (k + 1)).take long)
theorem getD_at (s : ByteArray) (k : Nat) (h : k < s.size) : s.data.toList.getD k 0 = s[k] := by
  rw [List.getD_eq_getElem?_getD, List.getElem?_eq_getElem (by simpa using h)]
  rfl
theorem takeC_arg (s : ByteArray) (p : Int) (h : p < 0 ∨ (s.size : Int) < p) : takeC s p = (0, 0, 1) := by
  unfold takeC; rw [if_pos h]
theorem takeC_end (s : ByteArray) : takeC s s.size = (0, 0, 4) := by
  unfold takeC; rw [if_neg (by omega), if_pos rfl]
theorem takeC_one (s : ByteArray) (k : Nat) (h : k < s.size) (hb : s[k].toNat < 253) : takeC s k = ((s[k].toNat : Int), (k : Int) + 1, 0) := by
  unfold takeC; simp only [Int.toNat_natCast, getD_at s k h]; rw [if_neg (by omega), if_neg (by omega), if_pos hb]
theorem takeC_cut (s : ByteArray) (k long : Nat) (h : k < s.size) (hb : (s[k].toNat = 253 ∧ long = 2) ∨ (s[k].toNat = 254 ∧ long = 4) ∨ (s[k].toNat = 255 ∧ long = 8)) (hc : s.size - k - 1 < long) : takeC s k = (0, 0, 4) := by
  unfold takeC; simp only [Int.toNat_natCast, getD_at s k h]; rw [if_neg (by omega), if_neg (by omega), if_neg (by omega), if_pos]
  rcases hb with ⟨e, rfl⟩ | ⟨e, rfl⟩ | ⟨e, rfl⟩ <;> simp [e, hc]
theorem takeC_form (s : ByteArray) (k long : Nat) (h : k < s.size) (hb : (s[k].toNat = 253 ∧ long = 2) ∨ (s[k].toNat = 254 ∧ long = 4) ∨ (s[k].toNat = 255 ∧ long = 8)) (hc : ¬ s.size - k - 1 < long) (hf : clong (numAt s k long) ≠ 1 + long) : takeC s k = (0, 0, 6) := by
  unfold numAt at hf
  unfold takeC; simp only [Int.toNat_natCast, getD_at s k h]
  rcases hb with ⟨e, rfl⟩ | ⟨e, rfl⟩ | ⟨e, rfl⟩ <;> (simp only [e]; rw [if_neg (by omega), if_neg (by omega), if_neg (by omega), if_neg (by simpa using hc), if_pos (by simpa using hf)])
theorem takeC_ok (s : ByteArray) (k long : Nat) (h : k < s.size) (hb : (s[k].toNat = 253 ∧ long = 2) ∨ (s[k].toNat = 254 ∧ long = 4) ∨ (s[k].toNat = 255 ∧ long = 8)) (hc : ¬ s.size - k - 1 < long) (hf : clong (numAt s k long) = 1 + long) : takeC s k = ((numAt s k long : Int), (k : Int) + 1 + long, 0) := by
  unfold numAt at *
  unfold takeC; simp only [Int.toNat_natCast, getD_at s k h]
  rcases hb with ⟨e, rfl⟩ | ⟨e, rfl⟩ | ⟨e, rfl⟩ <;> (simp only [e]; rw [if_neg (by omega), if_neg (by omega), if_neg (by omega), if_neg (by simpa using hc), if_neg (by simpa using hf)]; simp)

theorem numAt_ext (s : ByteArray) (k long : Nat) : getL (s.extract (k + 1) (k + 1 + long)).data.toList = numAt s k long := by
  unfold numAt
  congr 1
  rw [ByteArray.data_extract, Array.toList_extract, List.extract_eq_take_drop, show k + 1 + long - (k + 1) = long by omega]
theorem numAt_ext2 (s : ByteArray) (k long : Nat) (h : k + 1 + long ≤ s.size) : getL ((s.extract (k + 1) s.size).extract 0 long).data.toList = numAt s k long := by
  unfold numAt
  congr 1
  rw [ByteArray.data_extract, Array.toList_extract, List.extract_eq_take_drop, ByteArray.data_extract, Array.toList_extract, List.extract_eq_take_drop]
  simp only [List.drop_zero, Nat.sub_zero]
  rw [List.take_take, Nat.min_eq_left (by omega)]

def tc (x : Int × Int × Int) : Ending := .returned (.tuple #[.int .u64 x.1, .int .i64 x.2.1, .int .i64 x.2.2])

set_option maxRecDepth 10000 in
set_option maxHeartbeats 400000 in
theorem takeCount_any (s : ByteArray) (p : Int) (w : World) (hs : s.size ≤ maxLen) :
    Calls Try.prog 8 #[.string s, .int .i64 p] w fun e w' => e = tc (takeC s p) ∧ w' = w := by
  unfold maxLen at hs
  by_cases ha : p < 0 ∨ (s.size : Int) < p
  · rw [takeC_arg s p ha]
    rcases ha with ha | ha
    all_goals
      go_enter Try.func8, Try.ntmps8
      go_wp2
      go_ret3
      exact ⟨rfl, rfl⟩
  obtain ⟨k, rfl⟩ := Int.eq_ofNat_of_zero_le (show 0 ≤ p by omega)
  have hk0 : (0 : Int) ≤ k := by omega
  have hk1 : (k : Int) ≤ s.size := by omega
  by_cases hend : k = s.size
  · subst hend
    rw [takeC_end]
    go_enter Try.func8, Try.ntmps8
    go_wp2
    go_ret3
    exact ⟨rfl, rfl⟩
  have hlt : k < s.size := by omega
  have hne : ((k : Int) == (s.size : Int)) = false := by simp; omega
  clear ha
  by_cases hb : s[k].toNat < 253
  · rw [takeC_one s k hlt hb]
    go_enter Try.func8, Try.ntmps8
    go_wp2
    go_ret3
    exact ⟨rfl, rfl⟩
  have hb' := s[k].toNat_lt
  obtain ⟨long, hlong, hl8, hl2⟩ : ∃ long : Nat, ((s[k].toNat = 253 ∧ long = 2) ∨ (s[k].toNat = 254 ∧ long = 4) ∨ (s[k].toNat = 255 ∧ long = 8)) ∧ long ≤ 8 ∧ 2 ≤ long := by
    rcases (show s[k].toNat = 253 ∨ s[k].toNat = 254 ∨ s[k].toNat = 255 by omega) with e | e | e
    · exact ⟨2, .inl ⟨e, rfl⟩, by omega, by omega⟩
    · exact ⟨4, .inr (.inl ⟨e, rfl⟩), by omega, by omega⟩
    · exact ⟨8, .inr (.inr ⟨e, rfl⟩), by omega, by omega⟩
  have hbm : (if (s[k].toNat : Int) = 253 then 2 else if (s[k].toNat : Int) = 254 then 4 else 8 : Int) = (long : Int) := by
    rcases hlong with ⟨e, rfl⟩ | ⟨e, rfl⟩ | ⟨e, rfl⟩ <;> simp [e]
  have hbm' : Hid (∀ w, Calls Try.prog 45 #[.int .u8 (s[k].toNat : Int)] w fun e w' => e = .returned (.int .i64 (long : Int)) ∧ w' = w) := by
    intro w
    have := behind_any (s[k].toNat : Int) w
    rwa [hbm] at this
  have HL : Hid ((s[k].toNat = 253 ∧ long = 2) ∨ (s[k].toNat = 254 ∧ long = 4) ∨ (s[k].toNat = 255 ∧ long = 8)) := hlong
  clear hlong hbm
  by_cases hcut : s.size - k - 1 < long
  · rw [takeC_cut s k long hlt HL.out hcut]
    have hcut' : s.size - (k + 1) < long := by omega
    go_enter Try.func8, Try.ntmps8
    go_wp2_with (go_at_call 45; refine (hbm'.out _).mono ?_; rintro e w' ⟨rfl, rfl⟩)
    go_ret3
    exact ⟨rfl, rfl⟩
  · have hcut' : ¬ s.size - (k + 1) < long := by omega
    have hlf : Hid (∀ w, Calls Try.prog 46 #[.string ((s.extract (k + 1) s.size).extract 0 long)] w fun e w' => e = .returned (.int .u64 (numAt s k long)) ∧ w' = w) := by
      intro w
      refine (lowFirst_any _ w ?_).mono ?_
      · simp; omega
      · rintro e w' ⟨rfl, rfl⟩
        exact ⟨by rw [numAt_ext2 s k long (by omega)], rfl⟩
    by_cases hf : clong (numAt s k long) = 1 + long
    · rw [takeC_ok s k long hlt HL.out hcut hf]
      have hf' : (clong (numAt s k long) != 1 + long) = false := by simp [hf]
      go_enter Try.func8, Try.ntmps8
      go_wp2_with (first | (go_at_call 45; refine (hbm'.out _).mono ?_; rintro e w' ⟨rfl, rfl⟩) | (go_at_call 46; refine (hlf.out _).mono ?_; rintro e w' ⟨rfl, rfl⟩) | (go_at_call 13; refine (countLong_any _ _).mono ?_; rintro e w' ⟨rfl, rfl⟩))
      go_ret3
      exact ⟨rfl, rfl⟩
    · rw [takeC_form s k long hlt HL.out hcut hf]
      have hf' : (clong (numAt s k long) != 1 + long) = true := by simp [hf]
      clear hf
      go_enter Try.func8, Try.ntmps8
      go_wp2_with (first | (go_at_call 45; refine (hbm'.out _).mono ?_; rintro e w' ⟨rfl, rfl⟩) | (go_at_call 46; refine (hlf.out _).mono ?_; rintro e w' ⟨rfl, rfl⟩) | (go_at_call 13; refine (countLong_any _ _).mono ?_; rintro e w' ⟨rfl, rfl⟩))
      go_ret3
      exact ⟨rfl, rfl⟩

theorem countL_len (n : Nat) : ((countL n).length : Int) = clong n := by
  by_cases h1 : n < 253
  · have a : countL n = lowL n 1 := by unfold countL; rw [if_pos h1]
    have b : clong n = 1 := by unfold clong; rw [if_pos (by omega)]
    rw [a, b, lowL_len]; rfl
  by_cases h2 : n ≤ 65535
  · have a : countL n = 253 :: lowL n 2 := by unfold countL; rw [if_neg h1, if_pos h2]
    have b : clong n = 3 := by unfold clong; rw [if_neg (by omega), if_pos (by omega)]
    rw [a, b, List.length_cons, lowL_len]; rfl
  by_cases h3 : n ≤ 4294967295
  · have a : countL n = 254 :: lowL n 4 := by unfold countL; rw [if_neg h1, if_neg h2, if_pos h3]
    have b : clong n = 5 := by unfold clong; rw [if_neg (by omega), if_neg (by omega), if_pos (by omega)]
    rw [a, b, List.length_cons, lowL_len]; rfl
  · have a : countL n = 255 :: lowL n 8 := by unfold countL; rw [if_neg h1, if_neg h2, if_neg h3]
    have b : clong n = 9 := by unfold clong; rw [if_neg (by omega), if_neg (by omega), if_neg (by omega)]
    rw [a, b, List.length_cons, lowL_len]; rfl
theorem numAt_lt (s : ByteArray) (k long : Nat) (h : long ≤ 8) : U64 (numAt s k long) := by
  unfold U64 numAt
  have h1 := getL_lt ((s.data.toList.drop (k + 1)).take long)
  have h2 : 256 ^ ((s.data.toList.drop (k + 1)).take long).length ≤ 256 ^ 8 := Nat.pow_le_pow_right (by decide) (by rw [List.length_take]; omega)
  have h3 : 256 ^ 8 = 18446744073709551616 := by decide
  omega
theorem U64.byte (b : UInt8) : U64 b.toNat := by
  have := b.toNat_lt
  unfold U64; omega

set_option maxRecDepth 10000 in
set_option maxHeartbeats 400000 in
theorem rtakeCount_any (s : ByteArray) (p : Int) (w : World) (hs : s.size ≤ maxLen) :
    Calls Try.prog 9 #[.string s, .int .i64 p] w fun e w' => e = tc (takeC s p) ∧ Below w.heap.size w w' := by
  unfold maxLen at hs
  by_cases ha : p < 0 ∨ (s.size : Int) < p
  · rw [takeC_arg s p ha]
    rcases ha with ha | ha
    all_goals
      go_enter Try.func9, Try.ntmps9
      go_wp2
      go_ret3
      exact ⟨rfl, Below.refl _ _⟩
  obtain ⟨k, rfl⟩ := Int.eq_ofNat_of_zero_le (show 0 ≤ p by omega)
  have hk0 : (0 : Int) ≤ k := by omega
  have hk1 : (k : Int) ≤ s.size := by omega
  by_cases hend : k = s.size
  · subst hend
    rw [takeC_end]
    go_enter Try.func9, Try.ntmps9
    go_wp2
    go_ret3
    exact ⟨rfl, Below.refl _ _⟩
  have hlt : k < s.size := by omega
  have hne : ((k : Int) == (s.size : Int)) = false := by simp; omega
  clear ha
  have hb' := s[k].toNat_lt
  by_cases hb : s[k].toNat < 253
  · rw [takeC_one s k hlt hb]
    have hb1 : ((s[k].toNat : Int) == 253) = false := by simp; omega
    have hb2 : ((s[k].toNat : Int) == 254) = false := by simp; omega
    have hb3 : ((s[k].toNat : Int) == 255) = false := by simp; omega
    have hl1 : Hid ((countL s[k].toNat).length = 1) := by
      have := countL_len s[k].toNat
      rw [show clong s[k].toNat = 1 by unfold clong; rw [if_pos (by omega)]] at this
      exact Int.ofNat.inj this
    go_enter Try.func9, Try.ntmps9
    go_wp2_with (go_at_call 10; refine (rcount_any s[k].toNat (U64.byte _) _).mono ?_; rintro e w' ⟨rfl, hbel⟩; have hl2 := hl1.out)
    go_ret3
    exact ⟨rfl, hbel⟩
  rcases (show s[k].toNat = 253 ∨ s[k].toNat = 254 ∨ s[k].toNat = 255 by omega) with he | he | he
  · have hb1 : ((s[k].toNat : Int) == 253) = true := by simp; omega
    have HL : (s[k].toNat = 253 ∧ 2 = 2) ∨ (s[k].toNat = 254 ∧ 2 = 4) ∨ (s[k].toNat = 255 ∧ 2 = 8) := by omega
    by_cases hcut : s.size - k - 1 < 2
    · rw [takeC_cut s k 2 hlt HL hcut]
      have hc2 : (s.size : Int) - (k : Int) - 1 < 2 := by omega
      clear HL he
      go_enter Try.func9, Try.ntmps9
      go_wp2
      go_ret3
      exact ⟨rfl, Below.refl _ _⟩
    · have hc2 : ¬ (s.size : Int) - (k : Int) - 1 < 2 := by omega
      have hge : Hid (∀ w, Calls Try.prog 47 #[.string (s.extract (k + 1) (k + 1 + 2))] w fun e w' => e = .returned (.int .u64 (numAt s k 2)) ∧ w' = w) := by
        intro w
        refine (get_any _ w ?_).mono ?_
        · simp; omega
        · rintro e w' ⟨rfl, rfl⟩
          exact ⟨by rw [numAt_ext s k 2], rfl⟩
      have hcl : Hid (((countL (numAt s k 2)).length : Int) = clong (numAt s k 2)) := countL_len _
      by_cases hf : clong (numAt s k 2) = 1 + 2
      · rw [takeC_ok s k 2 hlt HL hcut hf]
        have hcl2 : (countL (numAt s k 2)).length = 1 + 2 := by have := hcl.out; omega
        clear HL he hf hcut
        go_enter Try.func9, Try.ntmps9
        go_wp2_with (first | (go_at_call 47; refine (hge.out _).mono ?_; rintro e w1 ⟨rfl, rfl⟩) | (go_at_call 10; refine (rcount_any (numAt s k 2) (numAt_lt s k 2 (by omega)) _).mono ?_; rintro e w' ⟨rfl, hbel⟩))
        go_ret3
        exact ⟨rfl, hbel⟩
      · rw [takeC_form s k 2 hlt HL hcut hf]
        have hcl2 : (((countL (numAt s k 2)).length : Int) != 1 + 2) = true := by rw [hcl.out]; exact bne_iff_ne.2 hf
        clear HL he hf hcut
        go_enter Try.func9, Try.ntmps9
        go_wp2_with (first | (go_at_call 47; refine (hge.out _).mono ?_; rintro e w1 ⟨rfl, rfl⟩) | (go_at_call 10; refine (rcount_any (numAt s k 2) (numAt_lt s k 2 (by omega)) _).mono ?_; rintro e w' ⟨rfl, hbel⟩))
        go_ret3
        exact ⟨rfl, hbel⟩
  · have hb1 : ((s[k].toNat : Int) == 253) = false := by simp; omega
    have hb2 : ((s[k].toNat : Int) == 254) = true := by simp; omega
    have HL : (s[k].toNat = 253 ∧ 4 = 2) ∨ (s[k].toNat = 254 ∧ 4 = 4) ∨ (s[k].toNat = 255 ∧ 4 = 8) := by omega
    by_cases hcut : s.size - k - 1 < 4
    · rw [takeC_cut s k 4 hlt HL hcut]
      have hc2 : (s.size : Int) - (k : Int) - 1 < 4 := by omega
      clear HL he
      go_enter Try.func9, Try.ntmps9
      go_wp2
      go_ret3
      exact ⟨rfl, Below.refl _ _⟩
    · have hc2 : ¬ (s.size : Int) - (k : Int) - 1 < 4 := by omega
      have hge : Hid (∀ w, Calls Try.prog 47 #[.string (s.extract (k + 1) (k + 1 + 4))] w fun e w' => e = .returned (.int .u64 (numAt s k 4)) ∧ w' = w) := by
        intro w
        refine (get_any _ w ?_).mono ?_
        · simp; omega
        · rintro e w' ⟨rfl, rfl⟩
          exact ⟨by rw [numAt_ext s k 4], rfl⟩
      have hcl : Hid (((countL (numAt s k 4)).length : Int) = clong (numAt s k 4)) := countL_len _
      by_cases hf : clong (numAt s k 4) = 1 + 4
      · rw [takeC_ok s k 4 hlt HL hcut hf]
        have hcl2 : (countL (numAt s k 4)).length = 1 + 4 := by have := hcl.out; omega
        clear HL he hf hcut
        go_enter Try.func9, Try.ntmps9
        go_wp2_with (first | (go_at_call 47; refine (hge.out _).mono ?_; rintro e w1 ⟨rfl, rfl⟩) | (go_at_call 10; refine (rcount_any (numAt s k 4) (numAt_lt s k 4 (by omega)) _).mono ?_; rintro e w' ⟨rfl, hbel⟩))
        go_ret3
        exact ⟨rfl, hbel⟩
      · rw [takeC_form s k 4 hlt HL hcut hf]
        have hcl2 : (((countL (numAt s k 4)).length : Int) != 1 + 4) = true := by rw [hcl.out]; exact bne_iff_ne.2 hf
        clear HL he hf hcut
        go_enter Try.func9, Try.ntmps9
        go_wp2_with (first | (go_at_call 47; refine (hge.out _).mono ?_; rintro e w1 ⟨rfl, rfl⟩) | (go_at_call 10; refine (rcount_any (numAt s k 4) (numAt_lt s k 4 (by omega)) _).mono ?_; rintro e w' ⟨rfl, hbel⟩))
        go_ret3
        exact ⟨rfl, hbel⟩
  · have hb1 : ((s[k].toNat : Int) == 253) = false := by simp; omega
    have hb2 : ((s[k].toNat : Int) == 254) = false := by simp; omega
    have hb3 : ((s[k].toNat : Int) == 255) = true := by simp; omega
    have HL : (s[k].toNat = 253 ∧ 8 = 2) ∨ (s[k].toNat = 254 ∧ 8 = 4) ∨ (s[k].toNat = 255 ∧ 8 = 8) := by omega
    by_cases hcut : s.size - k - 1 < 8
    · rw [takeC_cut s k 8 hlt HL hcut]
      have hc2 : (s.size : Int) - (k : Int) - 1 < 8 := by omega
      clear HL he
      go_enter Try.func9, Try.ntmps9
      go_wp2
      go_ret3
      exact ⟨rfl, Below.refl _ _⟩
    · have hc2 : ¬ (s.size : Int) - (k : Int) - 1 < 8 := by omega
      have hge : Hid (∀ w, Calls Try.prog 47 #[.string (s.extract (k + 1) (k + 1 + 8))] w fun e w' => e = .returned (.int .u64 (numAt s k 8)) ∧ w' = w) := by
        intro w
        refine (get_any _ w ?_).mono ?_
        · simp; omega
        · rintro e w' ⟨rfl, rfl⟩
          exact ⟨by rw [numAt_ext s k 8], rfl⟩
      have hcl : Hid (((countL (numAt s k 8)).length : Int) = clong (numAt s k 8)) := countL_len _
      by_cases hf : clong (numAt s k 8) = 1 + 8
      · rw [takeC_ok s k 8 hlt HL hcut hf]
        have hcl2 : (countL (numAt s k 8)).length = 1 + 8 := by have := hcl.out; omega
        clear HL he hf hcut
        go_enter Try.func9, Try.ntmps9
        go_wp2_with (first | (go_at_call 47; refine (hge.out _).mono ?_; rintro e w1 ⟨rfl, rfl⟩) | (go_at_call 10; refine (rcount_any (numAt s k 8) (numAt_lt s k 8 (by omega)) _).mono ?_; rintro e w' ⟨rfl, hbel⟩))
        go_ret3
        exact ⟨rfl, hbel⟩
      · rw [takeC_form s k 8 hlt HL hcut hf]
        have hcl2 : (((countL (numAt s k 8)).length : Int) != 1 + 8) = true := by rw [hcl.out]; exact bne_iff_ne.2 hf
        clear HL he hf hcut
        go_enter Try.func9, Try.ntmps9
        go_wp2_with (first | (go_at_call 47; refine (hge.out _).mono ?_; rintro e w1 ⟨rfl, rfl⟩) | (go_at_call 10; refine (rcount_any (numAt s k 8) (numAt_lt s k 8 (by omega)) _).mono ?_; rintro e w' ⟨rfl, hbel⟩))
        go_ret3
        exact ⟨rfl, hbel⟩
end Go.Proofs.Ytnmffnefkokkeaa
