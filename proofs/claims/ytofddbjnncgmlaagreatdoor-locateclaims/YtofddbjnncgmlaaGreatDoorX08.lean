/- num: the rest of the readers, and the document's: their contracts. -/
import Derived.Test.YtofddbjnncgmlaaGreatDoorX07
namespace Go.Proofs.YtofddbjnncgmlaaGreatDoor
open Go.RowKit
open Go.Deep
section
set_option maxRecDepth 10000
set_option maxHeartbeats 4000000
def clong (n : Int) : Int := if n < 253 then 1 else if n ≤ 65535 then 3 else if n ≤ 4294967295 then 5 else 9
set_option maxHeartbeats 400000 in
theorem countLong_any (n : Int) (w : World) :
    Calls Tryz.prog 190 #[.int .u64 n] w fun e w' => e = .returned (.int .i64 (clong n)) ∧ w' = w := by
  unfold clong
  go_enter Tryz.func190, Tryz.ntmps190
  go_wp2
  all_goals go_ret
  all_goals (refine ⟨?_, rfl⟩; simp [*])
set_option maxHeartbeats 400000 in
theorem behindMark_any (n : Int) (w : World) :
    Calls Tryz.prog 277 #[.int .u8 n] w fun e w' => e = .returned (.int .i64 (if n = 253 then 2 else if n = 254 then 4 else 8)) ∧ w' = w := by
  go_enter Tryz.func277, Tryz.ntmps277
  go_wp2
  all_goals go_ret
  all_goals (refine ⟨?_, rfl⟩; simp_all)
theorem get_step (s : ByteArray) (j : Nat) (h : j < s.size) (hb : leN (s.data.toList.drop (j + 1)) < 72057594037927936) :
    IntKind.u64.wrap (↑(leN (List.drop (j + 1) s.data.toList)) * 256 + IntKind.u64.wrap ↑s[j].toNat) = (leN (s.data.toList.drop j) : Int) := by
  have e := leN_dropL s.data.toList j (by simpa using h)
  have e2 : s.data.toList[j]'(by simpa using h) = s[j] := rfl
  have l := s[j].toNat_lt
  rw [e2] at e
  rw [wrapu (s[j].toNat : Int) (by omega) (by omega), wrapu _ (by omega) (by omega)]
  omega
set_option maxHeartbeats 400000 in
theorem get_any (s : ByteArray) (w : World) (hs : s.size ≤ 8) :
    Calls Tryz.prog 275 #[.string s] w fun e w' => e = .returned (.int .u64 (leN s.data.toList)) ∧ w' = w := by
  go_enter Tryz.func275, Tryz.ntmps275
  go_wp2
  go_loop [3, 4] (fun n i => ∃ k : Nat, k ≤ s.size ∧ i = .int .i64 ((k : Int) - 1) ∧ n = .int .u64 (leN (s.data.toList.drop k))) (fun _ i => (intOf i + 1).toNat)
  case atStart => exact ⟨s.size, Nat.le_refl _, rfl, by rw [List.drop_of_length_le (by simp)]; rfl⟩
  case round =>
    obtain ⟨k, hk, rfl, rfl⟩ := hrel
    by_cases hlt : 0 < k
    · obtain ⟨j, rfl⟩ : ∃ j, k = j + 1 := ⟨k - 1, by omega⟩
      have hb : leN (s.data.toList.drop (j + 1)) < 72057594037927936 := leN_lt8 _ (by simp; omega)
      go_wp2
      exact ⟨⟨j, by omega, rfl, by rw [get_step s j ‹_› hb]⟩, by simp [intOf]⟩
    · go_wp2
      go_ret
      exact ⟨by rw [show k = 0 by omega]; rfl, rfl⟩
/-- The bytes of a count. -/
def countL (n : Nat) : List UInt8 := if n < 253 then lowL n 1 else if n ≤ 65535 then 253 :: lowL n 2 else if n ≤ 4294967295 then 254 :: lowL n 4 else 255 :: lowL n 8
set_option maxRecDepth 10000 in
set_option maxHeartbeats 400000 in
theorem rcount_any (n : Nat) (hn : U64 n) (w : World) :
    Calls Tryz.prog 195 #[.int .u64 n] w fun e w' => e = .returned (.string ⟨(countL n).toArray⟩) ∧ Below w.heap.size w w' := by
  by_cases h1 : n < 253
  · have hL : countL n = lowL n 1 := by unfold countL; rw [if_pos h1]
    rw [hL]
    clear hL
    go_enter Tryz.func195, Tryz.ntmps195
    go_wp2_with (go_at_call 243; refine (low_any n 1 1 rfl hn _ (by omega)).mono ?_; rintro e w' ⟨rfl, hbel⟩)
    go_ret
    exact ⟨rfl, hbel⟩
  by_cases h2 : n ≤ 65535
  · have hL : countL n = 253 :: lowL n 2 := by unfold countL; rw [if_neg h1, if_pos h2]
    rw [hL]
    clear hL
    have hll := lowL_len n 2
    go_enter Tryz.func195, Tryz.ntmps195
    go_wp2_with (go_at_call 243; refine (low_any n 2 2 rfl hn _ (by omega)).mono ?_; rintro e w' ⟨rfl, hbel⟩)
    go_ret
    exact ⟨by simp [ByteArray.ext_iff], hbel⟩
  by_cases h3 : n ≤ 4294967295
  · have hL : countL n = 254 :: lowL n 4 := by unfold countL; rw [if_neg h1, if_neg h2, if_pos h3]
    rw [hL]
    clear hL
    have hll := lowL_len n 4
    go_enter Tryz.func195, Tryz.ntmps195
    go_wp2_with (go_at_call 243; refine (low_any n 4 4 rfl hn _ (by omega)).mono ?_; rintro e w' ⟨rfl, hbel⟩)
    go_ret
    exact ⟨by simp [ByteArray.ext_iff], hbel⟩
  · have hL : countL n = 255 :: lowL n 8 := by unfold countL; rw [if_neg h1, if_neg h2, if_neg h3]
    rw [hL]
    clear hL
    have hll := lowL_len n 8
    go_enter Tryz.func195, Tryz.ntmps195
    go_wp2_with (go_at_call 243; refine (low_any n 8 8 rfl hn _ (by omega)).mono ?_; rintro e w' ⟨rfl, hbel⟩)
    go_ret
    exact ⟨by simp [ByteArray.ext_iff], hbel⟩
/-- What is taken of a text as a count: the number, the place behind it, the error. -/
def takeC (s : ByteArray) (p : Int) : Int × Int × Int :=
  if p < 0 ∨ (s.size : Int) < p then (0, 0, 1) else
  if p = s.size then (0, 0, 4) else
  if (s.data.toList.getD p.toNat 0).toNat < 253 then (((s.data.toList.getD p.toNat 0).toNat : Int), p + 1, 0) else
  if s.size - p.toNat - 1 < (if (s.data.toList.getD p.toNat 0).toNat = 253 then 2 else if (s.data.toList.getD p.toNat 0).toNat = 254 then 4 else 8) then (0, 0, 4) else
  if clong (leN ((s.data.toList.drop (p.toNat + 1)).take (if (s.data.toList.getD p.toNat 0).toNat = 253 then 2 else if (s.data.toList.getD p.toNat 0).toNat = 254 then 4 else 8))) ≠ 1 + (if (s.data.toList.getD p.toNat 0).toNat = 253 then 2 else if (s.data.toList.getD p.toNat 0).toNat = 254 then 4 else 8) then (0, 0, 6) else
  ((leN ((s.data.toList.drop (p.toNat + 1)).take (if (s.data.toList.getD p.toNat 0).toNat = 253 then 2 else if (s.data.toList.getD p.toNat 0).toNat = 254 then 4 else 8)) : Int), p + 1 + (if (s.data.toList.getD p.toNat 0).toNat = 253 then 2 else if (s.data.toList.getD p.toNat 0).toNat = 254 then 4 else 8), 0)
/-- The number that stands behind a mark. -/
def numAt (s : ByteArray) (k long : Nat) : Nat := leN ((s.data.toList.drop (k + 1)).take long)
theorem getD_at (s : ByteArray) (k : Nat) (h : k < s.size) : s.data.toList.getD k 0 = s[k] := by
  rw [List.getD_eq_getElem?_getD, List.getElem?_eq_getElem (by simpa using h)]
  rfl
theorem takeC_arg (s : ByteArray) (p : Int) (h : p < 0 ∨ (s.size : Int) < p) : takeC s p = (0, 0, 1) := by
  unfold takeC; rw [if_pos h]
theorem takeC_end (s : ByteArray) : takeC s s.size = (0, 0, 4) := by
  unfold takeC; rw [if_neg (by omega), if_pos rfl]
theorem takeC_one (s : ByteArray) (k : Nat) (h : k < s.size) (hb : s[k].toNat < 253) : takeC s k = ((s[k].toNat : Int), (k : Int) + 1, 0) := by
  unfold takeC; simp only [Int.toNat_natCast, getD_at s k h]; rw [if_neg (by omega), if_neg (by omega), if_pos hb]
theorem takeC_cut (s : ByteArray) (k long : Nat) (h : k < s.size) (hb : (s[k].toNat = 253 ∧ long = 2) ∨ (s[k].toNat = 254 ∧ long = 4) ∨ (s[k].toNat = 255 ∧ long = 8)) (hc : s.size - k - 1 < long) : takeC s k = (0, 0, 4) := by
  unfold takeC; simp only [Int.toNat_natCast, getD_at s k h]; rw [if_neg (by omega), if_neg (by omega), if_neg (by omega), if_pos]
  rcases hb with ⟨e, rfl⟩ | ⟨e, rfl⟩ | ⟨e, rfl⟩ <;> simp [e, hc]
theorem takeC_form (s : ByteArray) (k long : Nat) (h : k < s.size) (hb : (s[k].toNat = 253 ∧ long = 2) ∨ (s[k].toNat = 254 ∧ long = 4) ∨ (s[k].toNat = 255 ∧ long = 8)) (hc : ¬ s.size - k - 1 < long) (hf : clong (numAt s k long) ≠ 1 + long) : takeC s k = (0, 0, 6) := by
  unfold numAt at hf
  unfold takeC; simp only [Int.toNat_natCast, getD_at s k h]
  rcases hb with ⟨e, rfl⟩ | ⟨e, rfl⟩ | ⟨e, rfl⟩ <;> (simp only [e]; rw [if_neg (by omega), if_neg (by omega), if_neg (by omega), if_neg (by simpa using hc), if_pos (by simpa using hf)])
theorem takeC_ok (s : ByteArray) (k long : Nat) (h : k < s.size) (hb : (s[k].toNat = 253 ∧ long = 2) ∨ (s[k].toNat = 254 ∧ long = 4) ∨ (s[k].toNat = 255 ∧ long = 8)) (hc : ¬ s.size - k - 1 < long) (hf : clong (numAt s k long) = 1 + long) : takeC s k = ((numAt s k long : Int), (k : Int) + 1 + long, 0) := by
  unfold numAt at *
  unfold takeC; simp only [Int.toNat_natCast, getD_at s k h]
  rcases hb with ⟨e, rfl⟩ | ⟨e, rfl⟩ | ⟨e, rfl⟩ <;> (simp only [e]; rw [if_neg (by omega), if_neg (by omega), if_neg (by omega), if_neg (by simpa using hc), if_neg (by simpa using hf)]; simp)
theorem numAt_ext (s : ByteArray) (k long : Nat) : leN (s.extract (k + 1) (k + 1 + long)).data.toList = numAt s k long := by
  unfold numAt
  congr 1
  rw [ByteArray.data_extract, Array.toList_extract, List.extract_eq_take_drop, show k + 1 + long - (k + 1) = long by omega]
theorem numAt_ext2 (s : ByteArray) (k long : Nat) (h : k + 1 + long ≤ s.size) : leN ((s.extract (k + 1) s.size).extract 0 long).data.toList = numAt s k long := by
  unfold numAt
  congr 1
  rw [ByteArray.data_extract, Array.toList_extract, List.extract_eq_take_drop, ByteArray.data_extract, Array.toList_extract, List.extract_eq_take_drop]
  simp only [List.drop_zero, Nat.sub_zero]
  rw [List.take_take, Nat.min_eq_left (by omega)]
def tc (x : Int × Int × Int) : Ending := .returned (.tuple #[.int .u64 x.1, .int .i64 x.2.1, .int .i64 x.2.2])
set_option maxRecDepth 10000 in
set_option maxHeartbeats 400000 in
theorem takeCount_any (s : ByteArray) (p : Int) (w : World) (hs : s.size ≤ maxLen) :
    Calls Tryz.prog 213 #[.string s, .int .i64 p] w fun e w' => e = tc (takeC s p) ∧ w' = w := by
  unfold maxLen at hs
  by_cases ha : p < 0 ∨ (s.size : Int) < p
  · rw [takeC_arg s p ha]
    rcases ha with ha | ha
    all_goals
      go_enter Tryz.func213, Tryz.ntmps213
      go_wp2
      go_ret3
      exact ⟨rfl, rfl⟩
  obtain ⟨k, rfl⟩ := Int.eq_ofNat_of_zero_le (show 0 ≤ p by omega)
  have hk0 : (0 : Int) ≤ k := by omega
  have hk1 : (k : Int) ≤ s.size := by omega
  by_cases hend : k = s.size
  · subst hend
    rw [takeC_end]
    go_enter Tryz.func213, Tryz.ntmps213
    go_wp2
    go_ret3
    exact ⟨rfl, rfl⟩
  have hlt : k < s.size := by omega
  have hne : ((k : Int) == (s.size : Int)) = false := by simp; omega
  clear ha
  by_cases hb : s[k].toNat < 253
  · rw [takeC_one s k hlt hb]
    go_enter Tryz.func213, Tryz.ntmps213
    go_wp2
    go_ret3
    exact ⟨rfl, rfl⟩
  have hb' := s[k].toNat_lt
  obtain ⟨long, hlong, hl8, hl2⟩ : ∃ long : Nat, ((s[k].toNat = 253 ∧ long = 2) ∨ (s[k].toNat = 254 ∧ long = 4) ∨ (s[k].toNat = 255 ∧ long = 8)) ∧ long ≤ 8 ∧ 2 ≤ long := by
    rcases (show s[k].toNat = 253 ∨ s[k].toNat = 254 ∨ s[k].toNat = 255 by omega) with e | e | e
    · exact ⟨2, .inl ⟨e, rfl⟩, by omega, by omega⟩
    · exact ⟨4, .inr (.inl ⟨e, rfl⟩), by omega, by omega⟩
    · exact ⟨8, .inr (.inr ⟨e, rfl⟩), by omega, by omega⟩
  have hbm : (if (s[k].toNat : Int) = 253 then 2 else if (s[k].toNat : Int) = 254 then 4 else 8 : Int) = (long : Int) := by
    rcases hlong with ⟨e, rfl⟩ | ⟨e, rfl⟩ | ⟨e, rfl⟩ <;> simp [e]
  have hbm' : Hid (∀ w, Calls Tryz.prog 277 #[.int .u8 (s[k].toNat : Int)] w fun e w' => e = .returned (.int .i64 (long : Int)) ∧ w' = w) := by
    intro w
    have := behindMark_any (s[k].toNat : Int) w
    rwa [hbm] at this
  have HL : Hid ((s[k].toNat = 253 ∧ long = 2) ∨ (s[k].toNat = 254 ∧ long = 4) ∨ (s[k].toNat = 255 ∧ long = 8)) := hlong
  clear hlong hbm
  by_cases hcut : s.size - k - 1 < long
  · rw [takeC_cut s k long hlt HL.out hcut]
    have hcut' : s.size - (k + 1) < long := by omega
    go_enter Tryz.func213, Tryz.ntmps213
    go_wp2_with (go_at_call 277; refine (hbm'.out _).mono ?_; rintro e w' ⟨rfl, rfl⟩)
    go_ret3
    exact ⟨rfl, rfl⟩
  · have hcut' : ¬ s.size - (k + 1) < long := by omega
    have hlf : Hid (∀ w, Calls Tryz.prog 212 #[.string ((s.extract (k + 1) s.size).extract 0 long)] w fun e w' => e = .returned (.int .u64 (numAt s k long)) ∧ w' = w) := by
      intro w
      refine (lowFirst_any _ w ?_).mono ?_
      · simp; omega
      · rintro e w' ⟨rfl, rfl⟩
        exact ⟨by rw [numAt_ext2 s k long (by omega)], rfl⟩
    by_cases hf : clong (numAt s k long) = 1 + long
    · rw [takeC_ok s k long hlt HL.out hcut hf]
      have hf' : (clong (numAt s k long) != 1 + long) = false := by simp [hf]
      go_enter Tryz.func213, Tryz.ntmps213
      go_wp2_with (first | (go_at_call 277; refine (hbm'.out _).mono ?_; rintro e w' ⟨rfl, rfl⟩) | (go_at_call 212; refine (hlf.out _).mono ?_; rintro e w' ⟨rfl, rfl⟩) | (go_at_call 190; refine (countLong_any _ _).mono ?_; rintro e w' ⟨rfl, rfl⟩))
      go_ret3
      exact ⟨rfl, rfl⟩
    · rw [takeC_form s k long hlt HL.out hcut hf]
      have hf' : (clong (numAt s k long) != 1 + long) = true := by simp [hf]
      clear hf
      go_enter Tryz.func213, Tryz.ntmps213
      go_wp2_with (first | (go_at_call 277; refine (hbm'.out _).mono ?_; rintro e w' ⟨rfl, rfl⟩) | (go_at_call 212; refine (hlf.out _).mono ?_; rintro e w' ⟨rfl, rfl⟩) | (go_at_call 190; refine (countLong_any _ _).mono ?_; rintro e w' ⟨rfl, rfl⟩))
      go_ret3
      exact ⟨rfl, rfl⟩
theorem countL_len (n : Nat) : ((countL n).length : Int) = clong n := by
  by_cases h1 : n < 253
  · have a : countL n = lowL n 1 := by unfold countL; rw [if_pos h1]
    have b : clong n = 1 := by unfold clong; rw [if_pos (by omega)]
    rw [a, b, lowL_len]; rfl
  by_cases h2 : n ≤ 65535
  · have a : countL n = 253 :: lowL n 2 := by unfold countL; rw [if_neg h1, if_pos h2]
    have b : clong n = 3 := by unfold clong; rw [if_neg (by omega), if_pos (by omega)]
    rw [a, b, List.length_cons, lowL_len]; rfl
  by_cases h3 : n ≤ 4294967295
  · have a : countL n = 254 :: lowL n 4 := by unfold countL; rw [if_neg h1, if_neg h2, if_pos h3]
    have b : clong n = 5 := by unfold clong; rw [if_neg (by omega), if_neg (by omega), if_pos (by omega)]
    rw [a, b, List.length_cons, lowL_len]; rfl
  · have a : countL n = 255 :: lowL n 8 := by unfold countL; rw [if_neg h1, if_neg h2, if_neg h3]
    have b : clong n = 9 := by unfold clong; rw [if_neg (by omega), if_neg (by omega), if_neg (by omega)]
    rw [a, b, List.length_cons, lowL_len]; rfl
theorem numAt_lt (s : ByteArray) (k long : Nat) (h : long ≤ 8) : U64 (numAt s k long) := by
  unfold U64 numAt
  have h1 := leN_lt ((s.data.toList.drop (k + 1)).take long)
  have h2 : 256 ^ ((s.data.toList.drop (k + 1)).take long).length ≤ 256 ^ 8 := Nat.pow_le_pow_right (by decide) (by rw [List.length_take]; omega)
  have h3 : 256 ^ 8 = 18446744073709551616 := by decide
  omega
theorem U64.byte (b : UInt8) : U64 b.toNat := by
  have := b.toNat_lt
  unfold U64; omega
end
theorem two_belowQ (w : World) (A B : Obj) : Below w.heap.size w ((w.alloc A).alloc B) := ((Below.refl _ _).alloc (Nat.le_refl _) _).alloc (by simp) _
theorem swap_eq (n : Nat) (hn : n < 65536) : bits BinOp.or IntKind.u16 (IntKind.u16.wrap ((n : Int) * 256)) ((n : Int) / 256) = ((n % 256 * 256 + n / 256 : Nat) : Int) := by
  rw [IntKind.wrap_u16, bits_join .u16 16 (by decide) (fun n h0 h1 => by rw [IntKind.wrap_u16]; omega) 8 _ _ (by omega) (by omega) (by omega) (by omega) (by omega) (by omega)]
  omega
section
set_option maxRecDepth 10000
set_option maxHeartbeats 4000000
/-- What a count is read as: the place, the error, the number. -/
def rcnt (s : ByteArray) (p err most : Int) : Int × Int × Int :=
  if err ≠ 0 then (p, err, 0) else if (takeC s p).2.2 ≠ 0 then (p, (takeC s p).2.2, 0) else if most < (takeC s p).1 then (p, 5, 0) else ((takeC s p).2.1, 0, (takeC s p).1)
/-- What is known of a count that was taken. -/
theorem takeC_facts (s : ByteArray) (p : Int) (h0 : 0 ≤ p) (h1 : p ≤ s.size) : 0 ≤ (takeC s p).1 ∧ (takeC s p).1 < 18446744073709551616 ∧ ((takeC s p).2.2 ≠ 0 → (takeC s p).1 = 0) ∧ ((takeC s p).2.2 = 0 → p ≤ (takeC s p).2.1 ∧ (takeC s p).2.1 ≤ s.size) := by
  obtain ⟨k, rfl⟩ := Int.eq_ofNat_of_zero_le h0
  by_cases he : k = s.size
  · subst he; rw [takeC_end]; simp
  have hlt : k < s.size := by omega
  have hb := s[k].toNat_lt
  by_cases h3 : s[k].toNat < 253
  · rw [takeC_one s k hlt h3]
    exact ⟨by show (0 : Int) ≤ s[k].toNat; omega, by show (s[k].toNat : Int) < _; omega, fun h => absurd rfl h, fun _ => ⟨by show (k : Int) ≤ k + 1; omega, by show (k : Int) + 1 ≤ s.size; omega⟩⟩
  obtain ⟨long, hl, hl8⟩ : ∃ long : Nat, ((s[k].toNat = 253 ∧ long = 2) ∨ (s[k].toNat = 254 ∧ long = 4) ∨ (s[k].toNat = 255 ∧ long = 8)) ∧ long ≤ 8 := by
    rcases (show s[k].toNat = 253 ∨ s[k].toNat = 254 ∨ s[k].toNat = 255 by omega) with e | e | e
    · exact ⟨2, .inl ⟨e, rfl⟩, by omega⟩
    · exact ⟨4, .inr (.inl ⟨e, rfl⟩), by omega⟩
    · exact ⟨8, .inr (.inr ⟨e, rfl⟩), by omega⟩
  by_cases hc : s.size - k - 1 < long
  · rw [takeC_cut s k long hlt hl hc]; simp
  by_cases hf : clong (numAt s k long) = 1 + long
  · rw [takeC_ok s k long hlt hl hc hf]
    have := (numAt_lt s k long hl8).lt
    exact ⟨by show (0 : Int) ≤ numAt s k long; omega, by show (numAt s k long : Int) < _; omega, fun h => absurd rfl h, fun _ => ⟨by show (k : Int) ≤ k + 1 + long; omega, by show (k : Int) + 1 + long ≤ s.size; omega⟩⟩
  · rw [takeC_form s k long hlt hl hc hf]; simp
theorem rcnt_inv (s : ByteArray) (p err most : Int) (h0 : 0 ≤ p) (h1 : p ≤ s.size) : 0 ≤ (rcnt s p err most).1 ∧ (rcnt s p err most).1 ≤ s.size ∧ 0 ≤ (rcnt s p err most).2.2 ∧ (rcnt s p err most).2.2 < 18446744073709551616 ∧ ((rcnt s p err most).2.1 = 0 → (rcnt s p err most).2.2 ≤ most) ∧ ((rcnt s p err most).2.1 ≠ 0 → (rcnt s p err most).2.2 = 0 ∧ (rcnt s p err most).1 = p) := by
  obtain ⟨f1, f2, f3, f4⟩ := takeC_facts s p h0 h1
  unfold rcnt
  split
  · rename_i he; exact ⟨h0, h1, by simp, by simp, fun h => absurd h he, fun _ => ⟨rfl, rfl⟩⟩
  · split
    · rename_i he; exact ⟨h0, h1, by simp, by simp, fun h => absurd h he, fun _ => ⟨rfl, rfl⟩⟩
    · split
      · exact ⟨h0, h1, by simp, by simp, fun h => absurd h (show ¬ (5 : Int) = 0 by decide), fun _ => ⟨rfl, rfl⟩⟩
      · rename_i he hm
        have := f4 (by simpa using he)
        exact ⟨by show 0 ≤ (takeC s p).2.1; omega, this.2, f1, f2, fun _ => by show (takeC s p).1 ≤ most; omega, fun h => absurd rfl h⟩
end
section
variable (b : Nat) (s : ByteArray) (w : World)
set_option maxRecDepth 10000
set_option maxHeartbeats 4000000
theorem rFail (p err n : Int) (h : Rst w b s p err) : Calls Tryz.prog 116 #[.pointer (some ⟨b, 0, none⟩), .int .i64 n] w fun e w' => e = .returned (.tuple #[]) ∧ Rst w' b s p (if err = 0 then n else err) ∧ Rfr b w w' := by
  have h2 := h.c2
  have hf := h.f 2
  by_cases he : err = 0
  · have he' : (err == 0) = true := by simp [he]
    rw [if_pos he]
    clear he
    go_enter Tryz.func116, Tryz.ntmps116
    go_wp2_with (go_at_call 118; refine (rErr b s _ p err h).mono ?_; rintro e w1 ⟨rfl, rfl⟩)
    go_end0
    exact ⟨rfl, h.set2 _, Rfr.setCell _ _ _ _⟩
  · have he' : (err == 0) = false := by simp [he]
    rw [if_neg he]
    clear he
    go_enter Tryz.func116, Tryz.ntmps116
    go_wp2_with (go_at_call 118; refine (rErr b s _ p err h).mono ?_; rintro e w1 ⟨rfl, rfl⟩)
    go_end0
    exact ⟨rfl, h, Rfr.refl _ _⟩
theorem rCount (p err most : Int) (h : Rst w b s p err) (hs : s.size ≤ maxLen) (h0 : 0 ≤ p) (h1 : p ≤ s.size) (hm : 0 ≤ most) : Calls Tryz.prog 113 #[.pointer (some ⟨b, 0, none⟩), .int .u64 most] w fun e w' => e = .returned (.int .u64 (rcnt s p err most).2.2) ∧ Rst w' b s (rcnt s p err most).1 (rcnt s p err most).2.1 ∧ Rfr b w w' := by
  by_cases he : err = 0
  · subst he
    obtain ⟨f1, f2, f3, f4⟩ := takeC_facts s p h0 h1
    have ht := fun w => takeCount_any s p w hs
    unfold rcnt
    rw [if_neg (by simp)]
    generalize takeC s p = T at *
    obtain ⟨t1, t2, t3⟩ := T
    simp only [tc] at *
    have HT := hide ht
    have hc0 := h.c0
    have hc1 := h.c1
    have hf1 := h.f 1
    have hf2 := h.f 2
    have hc2 := h.c2
    clear ht f4
    by_cases h3 : t3 = 0
    · subst h3
      rw [if_neg (by simp)]
      by_cases h4 : most < t1
      · rw [if_pos h4]
        clear f3
        go_enter Tryz.func113, Tryz.ntmps113
        go_wp2_with fail
        refine (rErr b s _ p 0 h).mono ?_
        rintro e w1 ⟨rfl, rfl⟩
        go_wp2
        go_quiet ((go_at_call 213; exact Calls.quiet_of_same (HT.out _)))
        go_wp2
        go_ret
        exact ⟨rfl, (h.drewN _).set2 _, (Rfr.drewN b _ _).trans (Rfr.setCell _ _ _ _)⟩
      · rw [if_neg h4]
        clear f3
        go_enter Tryz.func113, Tryz.ntmps113
        go_wp2_with fail
        refine (rErr b s _ p 0 h).mono ?_
        rintro e w1 ⟨rfl, rfl⟩
        go_wp2
        go_quiet ((go_at_call 213; exact Calls.quiet_of_same (HT.out _)))
        go_wp2
        go_ret
        exact ⟨rfl, (h.drewN _).set1 _, (Rfr.drewN b _ _).trans (Rfr.setCell _ _ _ _)⟩
    · rw [if_pos h3]
      have ht1 : t1 = 0 := f3 h3
      subst ht1
      have h3' : (t3 != 0) = true := by simp [h3]
      clear f3 h3
      go_enter Tryz.func113, Tryz.ntmps113
      go_wp2_with fail
      refine (rErr b s _ p 0 h).mono ?_
      rintro e w1 ⟨rfl, rfl⟩
      go_wp2
      go_quiet ((go_at_call 213; exact Calls.quiet_of_same (HT.out _)))
      go_wp2
      go_ret
      exact ⟨rfl, (h.drewN _).set2 _, (Rfr.drewN b _ _).trans (Rfr.setCell _ _ _ _)⟩
  · have hr : rcnt s p err most = (p, err, 0) := by unfold rcnt; rw [if_pos he]
    rw [hr]
    have he' : (err != 0) = true := by simp [he]
    clear he hr
    go_enter Tryz.func113, Tryz.ntmps113
    go_wp2_with (go_at_call 118; refine (rErr b s _ p err h).mono ?_; rintro e w1 ⟨rfl, rfl⟩)
    go_ret
    exact ⟨rfl, h, Rfr.refl _ _⟩
/-- Two bytes, the highest first. -/
def swap (n : Nat) : Nat := n % 256 * 256 + n / 256
/-- A byte as yes or no: the place, the error, the answer. -/
def rbool (s : ByteArray) (p err : Int) : Int × Int × Bool :=
  if (rtake s p err 1).2.1 ≠ 0 then (p, (rtake s p err 1).2.1, false) else if 1 < leN (rtake s p err 1).2.2.data.toList then (p, 6, false) else ((rtake s p err 1).1, 0, leN (rtake s p err 1).2.2.data.toList == 1)
/-- Where nothing is taken the place stays, and there are no bytes. -/
theorem rtake_err (s : ByteArray) (p err n : Int) (h : (rtake s p err n).2.1 ≠ 0) : (rtake s p err n).1 = p ∧ (rtake s p err n).2.2 = ⟨#[]⟩ := by
  unfold rtake at h ⊢
  split
  · exact ⟨rfl, rfl⟩
  · split
    · exact ⟨rfl, rfl⟩
    · split
      · exact ⟨rfl, rfl⟩
      · rename_i h1 h2 h3; rw [if_neg h1, if_neg h2, if_neg h3] at h; exact absurd rfl h
theorem rtake_ok (s : ByteArray) (p err n : Int) (h : (rtake s p err n).2.1 = 0) : err = 0 ∧ (rtake s p err n).1 = p + n ∧ 0 ≤ n ∧ n ≤ s.size - p ∧ (rtake s p err n).2.2 = s.extract p.toNat (p + n).toNat := by
  unfold rtake at h ⊢
  split
  · rename_i h1; rw [if_pos h1] at h; exact absurd h h1
  · split
    · rename_i h1 h2; rw [if_neg h1, if_pos h2] at h; exact absurd h (show ¬ (1 : Int) = 0 by decide)
    · split
      · rename_i h1 h2 h3; rw [if_neg h1, if_neg h2, if_pos h3] at h; exact absurd h (show ¬ (4 : Int) = 0 by decide)
      · rename_i h1 h2 h3; exact ⟨by simpa using h1, rfl, by omega, by omega, rfl⟩
theorem rBool (p err : Int) (h : Rst w b s p err) (hs : s.size ≤ maxLen) (h0 : 0 ≤ p) (h1 : p ≤ s.size) : Calls Tryz.prog 215 #[.pointer (some ⟨b, 0, none⟩)] w fun e w' => e = .returned (.bool (rbool s p err).2.2) ∧ Rst w' b s (rbool s p err).1 (rbool s p err).2.1 ∧ Rfr b w w' := by
  have hi := rtake_inv s p err 1 h0 h1
  have HT := hide fun w h => rByte b s w p err h hs h0 h1
  have he := rtake_err s p err 1
  have ho := rtake_ok s p err 1
  unfold rbool
  generalize rtake s p err 1 = R at *
  obtain ⟨r1, r2, rb⟩ := R
  dsimp only at *
  by_cases h2 : r2 = 0
  · subst h2
    rw [if_neg (by simp)]
    obtain ⟨rfl, hr1, -, -, -⟩ := ho rfl
    clear he ho
    generalize leN rb.data.toList = m at *
    unfold maxLen at hs
    by_cases hm : 1 < m
    · rw [if_pos hm]
      have hm1 : ((m : Int) == 1) = false := beq_eq_false_iff_ne.2 (by omega)
      have hm2 : (1 : Int) < m := by omega
      have HR := hide hr1
      clear hr1
      go_enter Tryz.func215, Tryz.ntmps215
      go_wp2_with fail
      refine (HT.out _ h).mono ?_
      rintro e w1 ⟨rfl, g, q⟩
      have d1 := g.c1
      have d2 := g.f 1
      have d4 := (g.set1 (r1 - 1)).c2
      have d5 := (g.set1 (r1 - 1)).f 2
      go_wp2
      go_ret
      refine ⟨rfl, ?_, (q.trans (Rfr.setCell _ _ _ _)).trans (Rfr.setCell _ _ _ _)⟩
      have e1 : r1 - 1 = p := by have := HR.out; omega
      rw [e1]
      exact (g.set1 p).set2 6
    · rw [if_neg hm]
      have hm2 : ¬ (1 : Int) < m := by omega
      have hm3 : ((m : Int) == 1) = (m == 1) := by
        by_cases e : m = 1
        · subst e; rfl
        · rw [beq_eq_false_iff_ne.2 (by omega), beq_eq_false_iff_ne.2 e]
      clear hr1
      go_enter Tryz.func215, Tryz.ntmps215
      go_wp2_with (go_at_call 279; refine (HT.out _ h).mono ?_; rintro e w1 ⟨rfl, g, q⟩)
      go_ret
      exact ⟨rfl, g, q⟩
  · rw [if_pos h2]
    obtain ⟨rfl, rfl⟩ := he h2
    clear he ho
    go_enter Tryz.func215, Tryz.ntmps215
    go_wp2_with (go_at_call 279; refine (HT.out _ h).mono ?_; rintro e w1 ⟨rfl, g, q⟩)
    go_ret
    exact ⟨rfl, g, q⟩
/-- The error, or that bytes are left. -/
def rend (s : ByteArray) (p err : Int) : Int := if err = 0 then (if p < s.size then 5 else 0) else err
theorem rEnd (p err : Int) (h : Rst w b s p err) (hs : s.size ≤ maxLen) (h0 : 0 ≤ p) (h1 : p ≤ s.size) : Calls Tryz.prog 120 #[.pointer (some ⟨b, 0, none⟩)] w fun e w' => e = .returned (.int .i64 (rend s p err)) ∧ Rst w' b s p (rend s p err) ∧ Rfr b w w' := by
  by_cases hp : p < s.size
  · have hr : rend s p err = if err = 0 then 5 else err := by unfold rend; rw [if_pos hp]
    rw [hr]
    have HF := hide fun w h => rFail b s w p err 5 h
    have HL := hide fun w h => rLeft b s w p err h hs h0 h1
    generalize (if err = 0 then 5 else err : Int) = E at *
    have hp2 : 0 < (s.size : Int) - p := by omega
    clear hr
    go_enter Tryz.func120, Tryz.ntmps120
    go_wp2_with fail
    refine (HL.out _ h).mono ?_
    rintro e w1 ⟨rfl, nq, rfl⟩
    go_wp2_with fail
    refine (HF.out _ (h.drewN nq)).mono ?_
    rintro e w2 ⟨rfl, g, q⟩
    go_wp2_with fail
    refine (rErr b s _ p E g).mono ?_
    rintro e w3 ⟨rfl, rfl⟩
    go_wp2
    go_ret
    exact ⟨rfl, g, (Rfr.drewN b _ nq).trans q⟩
  · have hr : rend s p err = err := by
      unfold rend
      by_cases e : err = 0
      · rw [if_pos e, if_neg hp, e]
      · rw [if_neg e]
    rw [hr]
    have HL := hide fun w h => rLeft b s w p err h hs h0 h1
    have hp2 : ¬ 0 < (s.size : Int) - p := by omega
    clear hr
    go_enter Tryz.func120, Tryz.ntmps120
    go_wp2_with fail
    refine (HL.out _ h).mono ?_
    rintro e w1 ⟨rfl, nq, rfl⟩
    go_wp2_with fail
    refine (rErr b s _ p err (h.drewN nq)).mono ?_
    rintro e w3 ⟨rfl, rfl⟩
    go_wp2
    go_ret
    exact ⟨rfl, h.drewN nq, Rfr.drewN b _ nq⟩
end
theorem Rfr.new {b : Nat} {w w1 : World} {A B : Obj} (hlt : b < w.heap.size) (h : Rfr b ((w.alloc A).alloc B).drew w1) : w1.heap[w.heap.size]? = some A ∧ w1.heap[w.heap.size + 1]? = some B := by
  have hz : ((w.alloc A).alloc B).drew.heap.size = w.heap.size + 2 := by simp
  exact ⟨(h.block _ (by omega) (by omega)).trans (heap_alloc2_old w A B), (h.block _ (by omega) (by omega)).trans (heap_alloc2_new w A B)⟩
theorem Rfr.setRow {b : Nat} {w w1 : World} (h : Rfr b w w1) (g : Nat) (hg : w.heap.size ≤ g) (cs : Array Value) : Rfr b w (w1.setRow g cs) :=
  ⟨h.os, h.tape, h.output, by have := h.size; simpa using this, fun k hk hb => (setRow_other w1 g k _ (by omega)).trans (h.block k hk hb)⟩
theorem Rst.setRow {w : World} {b : Nat} {s : ByteArray} {p err : Int} (h : Rst w b s p err) (g : Nat) (hg : b ≠ g) (cs : Array Value) : Rst (w.setRow g cs) b s p err := (setRow_other w g b _ hg).trans h
theorem two_drew {b : Nat} (w : World) (A B : Obj) : Rfr b w ((w.alloc A).alloc B).drew := Rfr.below ((two_belowQ w A B).drew)
/-- The bytes of a hash that was taken. -/
def hashOf (R : Int × Int × ByteArray) : List UInt8 := if R.2.1 ≠ 0 then zeros else R.2.2.data.toList
theorem copy_none (w : World) (d : Option Addr) (a b : Nat) : (Builtin.copy_ #[308, 9] 3 #[.slice d a b, .string ⟨#[]⟩]).run Tryz.prog w = .ok (.int .i64 0) w := by
  have h0 : (⟨#[]⟩ : ByteArray).size = 0 := rfl
  have h1 : Nat.min 0 a = 0 := by simp
  cases d <;> simp [Builtin.copy_, run_underlying Tryz.underlying308, Builtin.lenOf, Builtin.firstCells, h0, h1, storeCells, goInt]
theorem copy33 (w : World) (g : Nat) (s : ByteArray) (hs : s.size = 32) (l0 : List UInt8) (hl0 : l0.length = 32) (t : TypeId) (hg : w.heap[g]? = some (.cells (hc l0) t (0, 0))) :
    (Builtin.copy_ #[308, 9] 3 #[.slice (some ⟨g, 0, none⟩) 32 32, .string s]).run Tryz.prog w = .ok (.int .i64 32) (w.setRow g (hc s.data.toList)) := by
  have hle : (cellsL s.data.toList).length = 32 := by rw [cellsL_len]; simpa using hs
  have hst := run_storeCells_from (P := Tryz.prog) g t (cellsL s.data.toList) 0 (hc l0) w hg (by rw [hle, hc_size, hl0]) (fun v hv => by simp only [cellsL, List.mem_map] at hv; obtain ⟨b, _, rfl⟩ := hv; rfl)
  have hm : Nat.min 32 32 = 32 := by decide
  have htk : List.take 32 (List.map (fun b : UInt8 => Value.int IntKind.u8 (b.toNat : Int)) s.data.toList) = cellsL s.data.toList := by
    rw [List.take_of_length_le (by rw [← hle]; exact Nat.le_refl _)]
    rfl
  simp only [List.take_zero, List.nil_append] at hst
  simp [Builtin.copy_, run_underlying Tryz.underlying308, Builtin.lenOf, Builtin.firstCells, hs, hm, goInt]
  rw [htk, hst]
  simp [Result.andThen, hc]
section
variable (b : Nat) (s : ByteArray) (w : World)
set_option maxRecDepth 10000
set_option maxHeartbeats 4000000
set_option maxHeartbeats 800000 in
theorem rHash (p err : Int) (h : Rst w b s p err) (hs : s.size ≤ maxLen) (h0 : 0 ≤ p) (h1 : p ≤ s.size) : Calls Tryz.prog 110 #[.pointer (some ⟨b, 0, none⟩)] w fun e w' => e = .returned (.agg (hc (hashOf (rtake s p err 32)))) ∧ Rst w' b s (rtake s p err 32).1 (rtake s p err 32).2.1 ∧ Rfr b w w' := by
  have hlt := h.lt
  have HT := hide fun w h => rTake b s w p err 32 h hs h0 h1 (by decide) (by decide)
  have he := rtake_err s p err 32
  have ho := rtake_ok s p err 32
  unfold hashOf
  generalize rtake s p err 32 = R at *
  obtain ⟨r1, r2, rb⟩ := R
  dsimp only at *
  have hW : Rst ((w.alloc (.cells (hc zeros) 46)).alloc (.cells (hc zeros) 46)).drew b s p err := h.below ((two_belowQ w _ _).drew)
  by_cases h2 : r2 = 0
  · subst h2
    rw [if_neg (by simp)]
    obtain ⟨rfl, -, -, h5, h6⟩ := ho rfl
    have hz : rb.size = 32 := by rw [h6]; simp; omega
    have hzl : rb.data.toList.length = 32 := by simpa using hz
    clear he ho h5 h6
    go_enter Tryz.func110, Tryz.ntmps110
    go_wp2_with (first | refine wpList_allocA A25 rfl rfl ?_)
    go_region_with (go_at_call 211; refine (HT.out _ hW).mono ?_; rintro e w1 ⟨rfl, g, q⟩; have hA := (Rfr.new hlt q).1; have hB := (Rfr.new hlt q).2; have hcp := copy33 w1 (w.heap.size + 1) rb hz zeros zeros_len 46 hB)
    all_goals
      have hB2 := setRow_heap w1 (w.heap.size + 1) _ (hc rb.data.toList) _ _ hB
      have hA2 := (setRow_other w1 (w.heap.size + 1) w.heap.size (hc rb.data.toList) (by omega)).trans hA
      go_wp2_with (first | (refine wpList_loadA A25 rfl _ rfl (w.heap.size + 1) rfl (hc rb.data.toList) (by rw [hc_size, hzl]) 46 hB2 ?_) | (refine wpList_storeA A25 rfl _ _ rfl w.heap.size (hc rb.data.toList) (by rw [hc_size, hzl]) (hc_one _) rfl rfl (hc zeros) (by rw [hc_size, zeros_len]) 46 hA2 ?_))
      refine bodyPost_ret (v := .agg (hc rb.data.toList)) (resA A25 Tryz.results110 _ _ w.heap.size 46 _ (by rw [hc_size, hzl]) rfl (setRow_heap _ _ _ _ _ _ hA2)) rfl ⟨rfl, (g.setRow _ (by omega) _).setRow _ (by omega) _, ?_⟩
      exact ((((two_drew w _ _).trans q).setRow _ (by omega) _).setRow _ (by omega) _)
  · rw [if_pos h2]
    obtain ⟨rfl, rfl⟩ := he h2
    have hcp := fun W d a b => copy_none W d a b
    clear he ho h2
    go_enter Tryz.func110, Tryz.ntmps110
    go_wp2_with (first | refine wpList_allocA A25 rfl rfl ?_)
    go_region_with (go_at_call 211; refine (HT.out _ hW).mono ?_; rintro e w1 ⟨rfl, g, q⟩; have hA := (Rfr.new hlt q).1; have hB := (Rfr.new hlt q).2)
    all_goals
      go_wp2_with (first | (refine wpList_loadA A25 rfl _ rfl (w.heap.size + 1) rfl (hc zeros) (by rw [hc_size, zeros_len]) 46 hB ?_) | (refine wpList_storeA A25 rfl _ _ rfl w.heap.size (hc zeros) (by rw [hc_size, zeros_len]) (hc_one _) rfl rfl (hc zeros) (by rw [hc_size, zeros_len]) 46 hA ?_))
      refine bodyPost_ret (v := .agg (hc zeros)) (resA A25 Tryz.results110 _ _ w.heap.size 46 _ (by rw [hc_size, zeros_len]) rfl (setRow_heap _ _ _ _ _ _ hA)) rfl ⟨rfl, g.setRow _ (by omega) _, ?_⟩
      exact (((two_drew w _ _).trans q).setRow _ (by omega) _)
end
end Go.Proofs.YtofddbjnncgmlaaGreatDoor
