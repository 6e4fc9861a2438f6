/- num: the rest of the readers, and the document's: their contracts. num: the rest of the writers, and the document's Turned: their contracts. Lists of elements of any kind in memory: read, made, appended to. -/
import Derived.Test.YtpffaaalncdjcaaGreatDoorN06
import Derived.Test.YtpffaaalncdjcaaGreatDoorN05
import Derived.Great.BuildSlice
import Derived.Deep.MidRow
namespace Go.Proofs.YtpffaaalncdjcaaGreatDoor
open Go.RowKit
open Go.Deep
section
set_option maxRecDepth 10000
set_option maxHeartbeats 4000000
def clong (n : Int) : Int := if n < 253 then 1 else if n ≤ 65535 then 3 else if n ≤ 4294967295 then 5 else 9
set_option maxHeartbeats 400000 in
theorem countLong_any (n : Int) (w : World) :
    Calls Tryz.prog 178 #[.int .u64 n] w fun e w' => e = .returned (.int .i64 (clong n)) ∧ w' = w := by
  unfold clong
  go_enter Tryz.func178, Tryz.ntmps178
  go_wp2
  all_goals go_ret
  all_goals (refine ⟨?_, rfl⟩; simp [*])
theorem get_step (s : ByteArray) (j : Nat) (h : j < s.size) (hb : leN (s.data.toList.drop (j + 1)) < 72057594037927936) :
    IntKind.u64.wrap (↑(leN (List.drop (j + 1) s.data.toList)) * 256 + IntKind.u64.wrap ↑s[j].toNat) = (leN (s.data.toList.drop j) : Int) := by
  have e := leN_dropL s.data.toList j (by simpa using h)
  have e2 : s.data.toList[j]'(by simpa using h) = s[j] := rfl
  have l := s[j].toNat_lt
  rw [e2] at e
  rw [wrapu (s[j].toNat : Int) (by omega) (by omega), wrapu _ (by omega) (by omega)]
  omega
set_option maxHeartbeats 400000 in
theorem get_any (s : ByteArray) (w : World) (hs : s.size ≤ 8) :
    Calls Tryz.prog 38 #[.string s] w fun e w' => e = .returned (.int .u64 (leN s.data.toList)) ∧ w' = w := by
  go_enter Tryz.func38, Tryz.ntmps38
  go_wp2
  go_loop [3, 4] (fun n i => ∃ k : Nat, k ≤ s.size ∧ i = .int .i64 ((k : Int) - 1) ∧ n = .int .u64 (leN (s.data.toList.drop k))) (fun _ i => (intOf i + 1).toNat)
  case atStart => exact ⟨s.size, Nat.le_refl _, rfl, by rw [List.drop_of_length_le (by simp)]; rfl⟩
  case round =>
    obtain ⟨k, hk, rfl, rfl⟩ := hrel
    by_cases hlt : 0 < k
    · obtain ⟨j, rfl⟩ : ∃ j, k = j + 1 := ⟨k - 1, by omega⟩
      have hb : leN (s.data.toList.drop (j + 1)) < 72057594037927936 := leN_lt8 _ (by simp; omega)
      go_wp2
      exact ⟨⟨j, by omega, rfl, by rw [get_step s j ‹_› hb]⟩, by simp [intOf]⟩
    · go_wp2
      go_ret
      exact ⟨by rw [show k = 0 by omega]; rfl, rfl⟩
/-- The bytes of a count. -/
def countL (n : Nat) : List UInt8 := if n < 253 then lowL n 1 else if n ≤ 65535 then 253 :: lowL n 2 else if n ≤ 4294967295 then 254 :: lowL n 4 else 255 :: lowL n 8
/-- What is taken of a text as a count: the number, the place behind it, the error. -/
def takeC (s : ByteArray) (p : Int) : Int × Int × Int :=
  if p < 0 ∨ (s.size : Int) < p then (0, 0, 1) else
  if p = s.size then (0, 0, 4) else
  if (s.data.toList.getD p.toNat 0).toNat < 253 then (((s.data.toList.getD p.toNat 0).toNat : Int), p + 1, 0) else
  if s.size - p.toNat - 1 < (if (s.data.toList.getD p.toNat 0).toNat = 253 then 2 else if (s.data.toList.getD p.toNat 0).toNat = 254 then 4 else 8) then (0, 0, 4) else
  if clong (leN ((s.data.toList.drop (p.toNat + 1)).take (if (s.data.toList.getD p.toNat 0).toNat = 253 then 2 else if (s.data.toList.getD p.toNat 0).toNat = 254 then 4 else 8))) ≠ 1 + (if (s.data.toList.getD p.toNat 0).toNat = 253 then 2 else if (s.data.toList.getD p.toNat 0).toNat = 254 then 4 else 8) then (0, 0, 6) else
  ((leN ((s.data.toList.drop (p.toNat + 1)).take (if (s.data.toList.getD p.toNat 0).toNat = 253 then 2 else if (s.data.toList.getD p.toNat 0).toNat = 254 then 4 else 8)) : Int), p + 1 + (if (s.data.toList.getD p.toNat 0).toNat = 253 then 2 else if (s.data.toList.getD p.toNat 0).toNat = 254 then 4 else 8), 0)
/-- The number that stands behind a mark. -/
def numAt (s : ByteArray) (k long : Nat) : Nat := leN ((s.data.toList.drop (k + 1)).take long)
theorem getD_at (s : ByteArray) (k : Nat) (h : k < s.size) : s.data.toList.getD k 0 = s[k] := by
  rw [List.getD_eq_getElem?_getD, List.getElem?_eq_getElem (by simpa using h)]
  rfl
theorem takeC_arg (s : ByteArray) (p : Int) (h : p < 0 ∨ (s.size : Int) < p) : takeC s p = (0, 0, 1) := by
  unfold takeC; rw [if_pos h]
theorem takeC_end (s : ByteArray) : takeC s s.size = (0, 0, 4) := by
  unfold takeC; rw [if_neg (by omega), if_pos rfl]
theorem takeC_one (s : ByteArray) (k : Nat) (h : k < s.size) (hb : s[k].toNat < 253) : takeC s k = ((s[k].toNat : Int), (k : Int) + 1, 0) := by
  unfold takeC; simp only [Int.toNat_natCast, getD_at s k h]; rw [if_neg (by omega), if_neg (by omega), if_pos hb]
theorem takeC_cut (s : ByteArray) (k long : Nat) (h : k < s.size) (hb : (s[k].toNat = 253 ∧ long = 2) ∨ (s[k].toNat = 254 ∧ long = 4) ∨ (s[k].toNat = 255 ∧ long = 8)) (hc : s.size - k - 1 < long) : takeC s k = (0, 0, 4) := by
  unfold takeC; simp only [Int.toNat_natCast, getD_at s k h]; rw [if_neg (by omega), if_neg (by omega), if_neg (by omega), if_pos]
  rcases hb with ⟨e, rfl⟩ | ⟨e, rfl⟩ | ⟨e, rfl⟩ <;> simp [e, hc]
theorem takeC_form (s : ByteArray) (k long : Nat) (h : k < s.size) (hb : (s[k].toNat = 253 ∧ long = 2) ∨ (s[k].toNat = 254 ∧ long = 4) ∨ (s[k].toNat = 255 ∧ long = 8)) (hc : ¬ s.size - k - 1 < long) (hf : clong (numAt s k long) ≠ 1 + long) : takeC s k = (0, 0, 6) := by
  unfold numAt at hf
  unfold takeC; simp only [Int.toNat_natCast, getD_at s k h]
  rcases hb with ⟨e, rfl⟩ | ⟨e, rfl⟩ | ⟨e, rfl⟩ <;> (simp only [e]; rw [if_neg (by omega), if_neg (by omega), if_neg (by omega), if_neg (by simpa using hc), if_pos (by simpa using hf)])
theorem takeC_ok (s : ByteArray) (k long : Nat) (h : k < s.size) (hb : (s[k].toNat = 253 ∧ long = 2) ∨ (s[k].toNat = 254 ∧ long = 4) ∨ (s[k].toNat = 255 ∧ long = 8)) (hc : ¬ s.size - k - 1 < long) (hf : clong (numAt s k long) = 1 + long) : takeC s k = ((numAt s k long : Int), (k : Int) + 1 + long, 0) := by
  unfold numAt at *
  unfold takeC; simp only [Int.toNat_natCast, getD_at s k h]
  rcases hb with ⟨e, rfl⟩ | ⟨e, rfl⟩ | ⟨e, rfl⟩ <;> (simp only [e]; rw [if_neg (by omega), if_neg (by omega), if_neg (by omega), if_neg (by simpa using hc), if_neg (by simpa using hf)]; simp)
theorem numAt_ext (s : ByteArray) (k long : Nat) : leN (s.extract (k + 1) (k + 1 + long)).data.toList = numAt s k long := by
  unfold numAt
  congr 1
  rw [ByteArray.data_extract, Array.toList_extract, List.extract_eq_take_drop, show k + 1 + long - (k + 1) = long by omega]
theorem numAt_ext2 (s : ByteArray) (k long : Nat) (h : k + 1 + long ≤ s.size) : leN ((s.extract (k + 1) s.size).extract 0 long).data.toList = numAt s k long := by
  unfold numAt
  congr 1
  rw [ByteArray.data_extract, Array.toList_extract, List.extract_eq_take_drop, ByteArray.data_extract, Array.toList_extract, List.extract_eq_take_drop]
  simp only [List.drop_zero, Nat.sub_zero]
  rw [List.take_take, Nat.min_eq_left (by omega)]
def tc (x : Int × Int × Int) : Ending := .returned (.tuple #[.int .u64 x.1, .int .i64 x.2.1, .int .i64 x.2.2])
theorem countL_len (n : Nat) : ((countL n).length : Int) = clong n := by
  by_cases h1 : n < 253
  · have a : countL n = lowL n 1 := by unfold countL; rw [if_pos h1]
    have b : clong n = 1 := by unfold clong; rw [if_pos (by omega)]
    rw [a, b, lowL_len]; rfl
  by_cases h2 : n ≤ 65535
  · have a : countL n = 253 :: lowL n 2 := by unfold countL; rw [if_neg h1, if_pos h2]
    have b : clong n = 3 := by unfold clong; rw [if_neg (by omega), if_pos (by omega)]
    rw [a, b, List.length_cons, lowL_len]; rfl
  by_cases h3 : n ≤ 4294967295
  · have a : countL n = 254 :: lowL n 4 := by unfold countL; rw [if_neg h1, if_neg h2, if_pos h3]
    have b : clong n = 5 := by unfold clong; rw [if_neg (by omega), if_neg (by omega), if_pos (by omega)]
    rw [a, b, List.length_cons, lowL_len]; rfl
  · have a : countL n = 255 :: lowL n 8 := by unfold countL; rw [if_neg h1, if_neg h2, if_neg h3]
    have b : clong n = 9 := by unfold clong; rw [if_neg (by omega), if_neg (by omega), if_neg (by omega)]
    rw [a, b, List.length_cons, lowL_len]; rfl
theorem numAt_lt (s : ByteArray) (k long : Nat) (h : long ≤ 8) : U64 (numAt s k long) := by
  unfold U64 numAt
  have h1 := leN_lt ((s.data.toList.drop (k + 1)).take long)
  have h2 : 256 ^ ((s.data.toList.drop (k + 1)).take long).length ≤ 256 ^ 8 := Nat.pow_le_pow_right (by decide) (by rw [List.length_take]; omega)
  have h3 : 256 ^ 8 = 18446744073709551616 := by decide
  omega
theorem U64.byte (b : UInt8) : U64 b.toNat := by
  have := b.toNat_lt
  unfold U64; omega
end
theorem two_belowQ (w : World) (A B : Obj) : Below w.heap.size w ((w.alloc A).alloc B) := ((Below.refl _ _).alloc (Nat.le_refl _) _).alloc (by simp) _
theorem swap_eq (n : Nat) (hn : n < 65536) : bits BinOp.or IntKind.u16 (IntKind.u16.wrap ((n : Int) * 256)) ((n : Int) / 256) = ((n % 256 * 256 + n / 256 : Nat) : Int) := by
  rw [IntKind.wrap_u16, bits_join .u16 16 (by decide) (fun n h0 h1 => by rw [IntKind.wrap_u16]; omega) 8 _ _ (by omega) (by omega) (by omega) (by omega) (by omega) (by omega)]
  omega
section
set_option maxRecDepth 10000
set_option maxHeartbeats 4000000
/-- What a count is read as: the place, the error, the number. -/
def rcnt (s : ByteArray) (p err most : Int) : Int × Int × Int :=
  if err ≠ 0 then (p, err, 0) else if (takeC s p).2.2 ≠ 0 then (p, (takeC s p).2.2, 0) else if most < (takeC s p).1 then (p, 5, 0) else ((takeC s p).2.1, 0, (takeC s p).1)
/-- What is known of a count that was taken. -/
theorem takeC_facts (s : ByteArray) (p : Int) (h0 : 0 ≤ p) (h1 : p ≤ s.size) : 0 ≤ (takeC s p).1 ∧ (takeC s p).1 < 18446744073709551616 ∧ ((takeC s p).2.2 ≠ 0 → (takeC s p).1 = 0) ∧ ((takeC s p).2.2 = 0 → p ≤ (takeC s p).2.1 ∧ (takeC s p).2.1 ≤ s.size) := by
  obtain ⟨k, rfl⟩ := Int.eq_ofNat_of_zero_le h0
  by_cases he : k = s.size
  · subst he; rw [takeC_end]; simp
  have hlt : k < s.size := by omega
  have hb := s[k].toNat_lt
  by_cases h3 : s[k].toNat < 253
  · rw [takeC_one s k hlt h3]
    exact ⟨by show (0 : Int) ≤ s[k].toNat; omega, by show (s[k].toNat : Int) < _; omega, fun h => absurd rfl h, fun _ => ⟨by show (k : Int) ≤ k + 1; omega, by show (k : Int) + 1 ≤ s.size; omega⟩⟩
  obtain ⟨long, hl, hl8⟩ : ∃ long : Nat, ((s[k].toNat = 253 ∧ long = 2) ∨ (s[k].toNat = 254 ∧ long = 4) ∨ (s[k].toNat = 255 ∧ long = 8)) ∧ long ≤ 8 := by
    rcases (show s[k].toNat = 253 ∨ s[k].toNat = 254 ∨ s[k].toNat = 255 by omega) with e | e | e
    · exact ⟨2, .inl ⟨e, rfl⟩, by omega⟩
    · exact ⟨4, .inr (.inl ⟨e, rfl⟩), by omega⟩
    · exact ⟨8, .inr (.inr ⟨e, rfl⟩), by omega⟩
  by_cases hc : s.size - k - 1 < long
  · rw [takeC_cut s k long hlt hl hc]; simp
  by_cases hf : clong (numAt s k long) = 1 + long
  · rw [takeC_ok s k long hlt hl hc hf]
    have := (numAt_lt s k long hl8).lt
    exact ⟨by show (0 : Int) ≤ numAt s k long; omega, by show (numAt s k long : Int) < _; omega, fun h => absurd rfl h, fun _ => ⟨by show (k : Int) ≤ k + 1 + long; omega, by show (k : Int) + 1 + long ≤ s.size; omega⟩⟩
  · rw [takeC_form s k long hlt hl hc hf]; simp
theorem rcnt_inv (s : ByteArray) (p err most : Int) (h0 : 0 ≤ p) (h1 : p ≤ s.size) : 0 ≤ (rcnt s p err most).1 ∧ (rcnt s p err most).1 ≤ s.size ∧ 0 ≤ (rcnt s p err most).2.2 ∧ (rcnt s p err most).2.2 < 18446744073709551616 ∧ ((rcnt s p err most).2.1 = 0 → (rcnt s p err most).2.2 ≤ most) ∧ ((rcnt s p err most).2.1 ≠ 0 → (rcnt s p err most).2.2 = 0 ∧ (rcnt s p err most).1 = p) := by
  obtain ⟨f1, f2, f3, f4⟩ := takeC_facts s p h0 h1
  unfold rcnt
  split
  · rename_i he; exact ⟨h0, h1, by simp, by simp, fun h => absurd h he, fun _ => ⟨rfl, rfl⟩⟩
  · split
    · rename_i he; exact ⟨h0, h1, by simp, by simp, fun h => absurd h he, fun _ => ⟨rfl, rfl⟩⟩
    · split
      · exact ⟨h0, h1, by simp, by simp, fun h => absurd h (show ¬ (5 : Int) = 0 by decide), fun _ => ⟨rfl, rfl⟩⟩
      · rename_i he hm
        have := f4 (by simpa using he)
        exact ⟨by show 0 ≤ (takeC s p).2.1; omega, this.2, f1, f2, fun _ => by show (takeC s p).1 ≤ most; omega, fun h => absurd rfl h⟩
end
section
variable (b : Nat) (s : ByteArray) (w : World)
set_option maxRecDepth 10000
set_option maxHeartbeats 4000000
theorem rFail (p err n : Int) (h : Rst w b s p err) : Calls Tryz.prog 173 #[.pointer (some ⟨b, 0, none⟩), .int .i64 n] w fun e w' => e = .returned (.tuple #[]) ∧ Rst w' b s p (if err = 0 then n else err) ∧ Rfr b w w' := by
  have h2 := h.c2
  have hf := h.f 2
  by_cases he : err = 0
  · have he' : (err == 0) = true := by simp [he]
    rw [if_pos he]
    clear he
    go_enter Tryz.func173, Tryz.ntmps173
    go_wp2_with (go_at_call 76; refine (rErr b s _ p err h).mono ?_; rintro e w1 ⟨rfl, rfl⟩)
    go_end0
    exact ⟨rfl, h.set2 _, Rfr.setCell _ _ _ _⟩
  · have he' : (err == 0) = false := by simp [he]
    rw [if_neg he]
    clear he
    go_enter Tryz.func173, Tryz.ntmps173
    go_wp2_with (go_at_call 76; refine (rErr b s _ p err h).mono ?_; rintro e w1 ⟨rfl, rfl⟩)
    go_end0
    exact ⟨rfl, h, Rfr.refl _ _⟩
theorem rBytes (p err n : Int) (h : Rst w b s p err) (hs : s.size ≤ maxLen) (h0 : 0 ≤ p) (h1 : p ≤ s.size) (hn2 : n ≤ 9223372036854775807) : Calls Tryz.prog 153 #[.pointer (some ⟨b, 0, none⟩), .int .i64 n] w fun e w' => e = .returned (.string (rtake s p err n).2.2) ∧ Rst w' b s (rtake s p err n).1 (rtake s p err n).2.1 ∧ Rfr b w w' := by
  by_cases hn : n < 0
  · have hr : rtake s p err n = (p, if err = 0 then 1 else err, ⟨#[]⟩) := by
      unfold rtake
      by_cases he : err = 0
      · rw [if_neg (by simp [he]), if_pos hn, if_pos he]
      · rw [if_pos he, if_neg he]
    rw [hr]
    have HF := hide fun w h => rFail b s w p err 1 h
    generalize (if err = 0 then 1 else err : Int) = E at *
    go_enter Tryz.func153, Tryz.ntmps153
    go_wp2_with (go_at_call 173; refine (HF.out _ h).mono ?_; rintro e w1 ⟨rfl, hr, hf⟩)
    go_ret
    exact ⟨rfl, hr, hf⟩
  · have HT := hide fun w h => rTake b s w p err n h hs h0 h1 (by omega) hn2
    generalize rtake s p err n = R at *
    go_enter Tryz.func153, Tryz.ntmps153
    go_wp2_with (go_at_call 105; refine (HT.out _ h).mono ?_; rintro e w1 ⟨rfl, hr, hf⟩)
    go_ret
    exact ⟨rfl, hr, hf⟩
/-- Two bytes, the highest first. -/
def swap (n : Nat) : Nat := n % 256 * 256 + n / 256
/-- A byte as yes or no: the place, the error, the answer. -/
def rbool (s : ByteArray) (p err : Int) : Int × Int × Bool :=
  if (rtake s p err 1).2.1 ≠ 0 then (p, (rtake s p err 1).2.1, false) else if 1 < leN (rtake s p err 1).2.2.data.toList then (p, 6, false) else ((rtake s p err 1).1, 0, leN (rtake s p err 1).2.2.data.toList == 1)
/-- Where nothing is taken the place stays, and there are no bytes. -/
theorem rtake_err (s : ByteArray) (p err n : Int) (h : (rtake s p err n).2.1 ≠ 0) : (rtake s p err n).1 = p ∧ (rtake s p err n).2.2 = ⟨#[]⟩ := by
  unfold rtake at h ⊢
  split
  · exact ⟨rfl, rfl⟩
  · split
    · exact ⟨rfl, rfl⟩
    · split
      · exact ⟨rfl, rfl⟩
      · rename_i h1 h2 h3; rw [if_neg h1, if_neg h2, if_neg h3] at h; exact absurd rfl h
theorem rtake_ok (s : ByteArray) (p err n : Int) (h : (rtake s p err n).2.1 = 0) : err = 0 ∧ (rtake s p err n).1 = p + n ∧ 0 ≤ n ∧ n ≤ s.size - p ∧ (rtake s p err n).2.2 = s.extract p.toNat (p + n).toNat := by
  unfold rtake at h ⊢
  split
  · rename_i h1; rw [if_pos h1] at h; exact absurd h h1
  · split
    · rename_i h1 h2; rw [if_neg h1, if_pos h2] at h; exact absurd h (show ¬ (1 : Int) = 0 by decide)
    · split
      · rename_i h1 h2 h3; rw [if_neg h1, if_neg h2, if_pos h3] at h; exact absurd h (show ¬ (4 : Int) = 0 by decide)
      · rename_i h1 h2 h3; exact ⟨by simpa using h1, rfl, by omega, by omega, rfl⟩
/-- The error, or that bytes are left. -/
def rend (s : ByteArray) (p err : Int) : Int := if err = 0 then (if p < s.size then 5 else 0) else err
end
theorem Rfr.new {b : Nat} {w w1 : World} {A B : Obj} (hlt : b < w.heap.size) (h : Rfr b ((w.alloc A).alloc B).drew w1) : w1.heap[w.heap.size]? = some A ∧ w1.heap[w.heap.size + 1]? = some B := by
  have hz : ((w.alloc A).alloc B).drew.heap.size = w.heap.size + 2 := by simp
  exact ⟨(h.block _ (by omega) (by omega)).trans (heap_alloc2_old w A B), (h.block _ (by omega) (by omega)).trans (heap_alloc2_new w A B)⟩
theorem Rfr.setRow {b : Nat} {w w1 : World} (h : Rfr b w w1) (g : Nat) (hg : w.heap.size ≤ g) (cs : Array Value) : Rfr b w (w1.setRow g cs) :=
  ⟨h.os, h.tape, h.output, by have := h.size; simpa using this, fun k hk hb => (setRow_other w1 g k _ (by omega)).trans (h.block k hk hb)⟩
theorem Rst.setRow {w : World} {b : Nat} {s : ByteArray} {p err : Int} (h : Rst w b s p err) (g : Nat) (hg : b ≠ g) (cs : Array Value) : Rst (w.setRow g cs) b s p err := (setRow_other w g b _ hg).trans h
theorem two_drew {b : Nat} (w : World) (A B : Obj) : Rfr b w ((w.alloc A).alloc B).drew := Rfr.below ((two_belowQ w A B).drew)
/-- The bytes of a hash that was taken. -/
def hashOf (R : Int × Int × ByteArray) : List UInt8 := if R.2.1 ≠ 0 then zeros else R.2.2.data.toList
theorem copy_none (w : World) (d : Option Addr) (a b : Nat) : (Builtin.copy_ #[80, 9] 3 #[.slice d a b, .string ⟨#[]⟩]).run Tryz.prog w = .ok (.int .i64 0) w := by
  have h0 : (⟨#[]⟩ : ByteArray).size = 0 := rfl
  have h1 : Nat.min 0 a = 0 := by simp
  cases d <;> simp [Builtin.copy_, run_underlying Tryz.underlying80, Builtin.lenOf, Builtin.firstCells, h0, h1, storeCells, goInt]
theorem copy33 (w : World) (g : Nat) (s : ByteArray) (hs : s.size = 32) (l0 : List UInt8) (hl0 : l0.length = 32) (t : TypeId) (hg : w.heap[g]? = some (.cells (hc l0) t (0, 0))) :
    (Builtin.copy_ #[80, 9] 3 #[.slice (some ⟨g, 0, none⟩) 32 32, .string s]).run Tryz.prog w = .ok (.int .i64 32) (w.setRow g (hc s.data.toList)) := by
  have hle : (cellsL s.data.toList).length = 32 := by rw [cellsL_len]; simpa using hs
  have hst := run_storeCells_from (P := Tryz.prog) g t (cellsL s.data.toList) 0 (hc l0) w hg (by rw [hle, hc_size, hl0]) (fun v hv => by simp only [cellsL, List.mem_map] at hv; obtain ⟨b, _, rfl⟩ := hv; rfl)
  have hm : Nat.min 32 32 = 32 := by decide
  have htk : List.take 32 (List.map (fun b : UInt8 => Value.int IntKind.u8 (b.toNat : Int)) s.data.toList) = cellsL s.data.toList := by
    rw [List.take_of_length_le (by rw [← hle]; exact Nat.le_refl _)]
    rfl
  simp only [List.take_zero, List.nil_append] at hst
  simp [Builtin.copy_, run_underlying Tryz.underlying80, Builtin.lenOf, Builtin.firstCells, hs, hm, goInt]
  rw [htk, hst]
  simp [Result.andThen, hc]
section
variable (b : Nat) (s : ByteArray) (w : World)
set_option maxRecDepth 10000
set_option maxHeartbeats 4000000
set_option maxHeartbeats 800000 in
theorem rHash (p err : Int) (h : Rst w b s p err) (hs : s.size ≤ maxLen) (h0 : 0 ≤ p) (h1 : p ≤ s.size) : Calls Tryz.prog 75 #[.pointer (some ⟨b, 0, none⟩)] w fun e w' => e = .returned (.agg (hc (hashOf (rtake s p err 32)))) ∧ Rst w' b s (rtake s p err 32).1 (rtake s p err 32).2.1 ∧ Rfr b w w' := by
  have hlt := h.lt
  have HT := hide fun w h => rTake b s w p err 32 h hs h0 h1 (by decide) (by decide)
  have he := rtake_err s p err 32
  have ho := rtake_ok s p err 32
  unfold hashOf
  generalize rtake s p err 32 = R at *
  obtain ⟨r1, r2, rb⟩ := R
  dsimp only at *
  have hW : Rst ((w.alloc (.cells (hc zeros) 24)).alloc (.cells (hc zeros) 24)).drew b s p err := h.below ((two_belowQ w _ _).drew)
  by_cases h2 : r2 = 0
  · subst h2
    rw [if_neg (by simp)]
    obtain ⟨rfl, -, -, h5, h6⟩ := ho rfl
    have hz : rb.size = 32 := by rw [h6]; simp; omega
    have hzl : rb.data.toList.length = 32 := by simpa using hz
    clear he ho h5 h6
    go_enter Tryz.func75, Tryz.ntmps75
    go_wp2_with (first | refine wpList_allocA A25 rfl rfl ?_)
    go_region_with (go_at_call 105; refine (HT.out _ hW).mono ?_; rintro e w1 ⟨rfl, g, q⟩; have hA := (Rfr.new hlt q).1; have hB := (Rfr.new hlt q).2; have hcp := copy33 w1 (w.heap.size + 1) rb hz zeros zeros_len 24 hB)
    all_goals
      have hB2 := setRow_heap w1 (w.heap.size + 1) _ (hc rb.data.toList) _ _ hB
      have hA2 := (setRow_other w1 (w.heap.size + 1) w.heap.size (hc rb.data.toList) (by omega)).trans hA
      go_wp2_with (first | (refine wpList_loadA A25 rfl _ rfl (w.heap.size + 1) rfl (hc rb.data.toList) (by rw [hc_size, hzl]) 24 hB2 ?_) | (refine wpList_storeA A25 rfl _ _ rfl w.heap.size (hc rb.data.toList) (by rw [hc_size, hzl]) (hc_one _) rfl rfl (hc zeros) (by rw [hc_size, zeros_len]) 24 hA2 ?_))
      refine bodyPost_ret (v := .agg (hc rb.data.toList)) (resA A25 Tryz.results75 _ _ w.heap.size 24 _ (by rw [hc_size, hzl]) rfl (setRow_heap _ _ _ _ _ _ hA2)) rfl ⟨rfl, (g.setRow _ (by omega) _).setRow _ (by omega) _, ?_⟩
      exact ((((two_drew w _ _).trans q).setRow _ (by omega) _).setRow _ (by omega) _)
  · rw [if_pos h2]
    obtain ⟨rfl, rfl⟩ := he h2
    have hcp := fun W d a b => copy_none W d a b
    clear he ho h2
    go_enter Tryz.func75, Tryz.ntmps75
    go_wp2_with (first | refine wpList_allocA A25 rfl rfl ?_)
    go_region_with (go_at_call 105; refine (HT.out _ hW).mono ?_; rintro e w1 ⟨rfl, g, q⟩; have hA := (Rfr.new hlt q).1; have hB := (Rfr.new hlt q).2)
    all_goals
      go_wp2_with (first | (refine wpList_loadA A25 rfl _ rfl (w.heap.size + 1) rfl (hc zeros) (by rw [hc_size, zeros_len]) 24 hB ?_) | (refine wpList_storeA A25 rfl _ _ rfl w.heap.size (hc zeros) (by rw [hc_size, zeros_len]) (hc_one _) rfl rfl (hc zeros) (by rw [hc_size, zeros_len]) 24 hA ?_))
      refine bodyPost_ret (v := .agg (hc zeros)) (resA A25 Tryz.results75 _ _ w.heap.size 24 _ (by rw [hc_size, zeros_len]) rfl (setRow_heap _ _ _ _ _ _ hA)) rfl ⟨rfl, g.setRow _ (by omega) _, ?_⟩
      exact (((two_drew w _ _).trans q).setRow _ (by omega) _)
end
end Go.Proofs.YtpffaaalncdjcaaGreatDoor
namespace Go.Proofs.YtpffaaalncdjcaaGreatDoor
open Go.RowKit
open Go.Deep
section
set_option maxRecDepth 10000
set_option maxHeartbeats 4000000
set_option maxRecDepth 10000 in
set_option maxHeartbeats 400000 in
theorem putCount_any (v : Value) (l : List UInt8) (n : Nat) (hn : U64 n) (w : World) (hl : l.length ≤ 70368744170000) (hown : Own w v l) :
    Calls Tryz.prog 158 #[v, .int .u64 n] w fun e w' => ∃ v', e = .returned v' ∧ Own w' v' (l ++ countL n) ∧ Onto w w' v v' := by
  by_cases h1 : n < 253
  · have hc : clong n = 1 := by unfold clong; repeat (first | rw [if_pos (by omega)] | rw [if_neg (by omega)])
    have hL : countL n = lowL n 1 := by unfold countL; rw [if_pos h1]
    rw [hL]
    clear hL
    go_enter Tryz.func158, Tryz.ntmps158
    go_wp2_with (first | (go_at_call 178; refine (countLong_any _ _).mono ?_; rintro e w1 ⟨rfl, rfl⟩; rw [hc]) | (go_at_call 128; refine (putLow_any v l n 1 1 rfl hn _ (by omega) (by omega) hown).mono ?_; rintro e w' ⟨v', rfl, ho, hon⟩))
    go_ret
    exact ⟨v', rfl, ho, hon⟩
  by_cases h2 : n ≤ 65535
  · have hc : clong n = 3 := by unfold clong; repeat (first | rw [if_pos (by omega)] | rw [if_neg (by omega)])
    have hL : countL n = 253 :: lowL n 2 := by unfold countL; rw [if_neg h1, if_pos h2]
    rw [hL]
    clear hL
    go_enter Tryz.func158, Tryz.ntmps158
    go_wp2_with (first | (go_at_call 178; refine (countLong_any _ _).mono ?_; rintro e w1 ⟨rfl, rfl⟩; rw [hc]) | (at_builtin; refine wpList_app rfl _ _ rfl v _ rfl (hown.alloc _) ⟨_, 0, none⟩ 1 1 [253] rfl rfl (one_new _ _ _ rfl) (by omega) ?_; intro v' w3 hown' hon3) | (go_at_call 128; refine (putLow_any v' (l ++ [253]) n 2 2 rfl hn _ (by omega) (by simp; omega) hown').mono ?_; rintro e w' ⟨v2, rfl, ho, hon⟩))
    go_ret
    exact ⟨v2, rfl, by simpa using ho, ((Onto.refl _ _).alloc _).trans (hon3.trans hon)⟩
  by_cases h3 : n ≤ 4294967295
  · have hc : clong n = 5 := by unfold clong; repeat (first | rw [if_pos (by omega)] | rw [if_neg (by omega)])
    have hL : countL n = 254 :: lowL n 4 := by unfold countL; rw [if_neg h1, if_neg h2, if_pos h3]
    rw [hL]
    clear hL
    go_enter Tryz.func158, Tryz.ntmps158
    go_wp2_with (first | (go_at_call 178; refine (countLong_any _ _).mono ?_; rintro e w1 ⟨rfl, rfl⟩; rw [hc]) | (at_builtin; refine wpList_app rfl _ _ rfl v _ rfl (hown.alloc _) ⟨_, 0, none⟩ 1 1 [254] rfl rfl (one_new _ _ _ rfl) (by omega) ?_; intro v' w3 hown' hon3) | (go_at_call 128; refine (putLow_any v' (l ++ [254]) n 4 4 rfl hn _ (by omega) (by simp; omega) hown').mono ?_; rintro e w' ⟨v2, rfl, ho, hon⟩))
    go_ret
    exact ⟨v2, rfl, by simpa using ho, ((Onto.refl _ _).alloc _).trans (hon3.trans hon)⟩
  · have hc : clong n = 9 := by unfold clong; repeat (first | rw [if_pos (by omega)] | rw [if_neg (by omega)])
    have hL : countL n = 255 :: lowL n 8 := by unfold countL; rw [if_neg h1, if_neg h2, if_neg h3]
    rw [hL]
    clear hL
    go_enter Tryz.func158, Tryz.ntmps158
    go_wp2_with (first | (go_at_call 178; refine (countLong_any _ _).mono ?_; rintro e w1 ⟨rfl, rfl⟩; rw [hc]) | (at_builtin; refine wpList_app rfl _ _ rfl v _ rfl (hown.alloc _) ⟨_, 0, none⟩ 1 1 [255] rfl rfl (one_new _ _ _ rfl) (by omega) ?_; intro v' w3 hown' hon3) | (go_at_call 128; refine (putLow_any v' (l ++ [255]) n 8 8 rfl hn _ (by omega) (by simp; omega) hown').mono ?_; rintro e w' ⟨v2, rfl, ho, hon⟩))
    go_ret
    exact ⟨v2, rfl, by simpa using ho, ((Onto.refl _ _).alloc _).trans (hon3.trans hon)⟩
theorem clong_le (n : Int) : clong n ≤ 9 := by unfold clong; repeat' split <;> omega
theorem wCount (p : Value) (l : List UInt8) (n : Nat) (hn : U64 n) (w : World) (hl : l.length ≤ 35184372088832) (h : Wst w p l) :
    Calls Tryz.prog 132 #[p, .int .u64 n] w fun e w' => e = .returned (.tuple #[]) ∧ Wst w' p (l ++ countL n) ∧ Wfr w w' p := by
  rcases h with rfl | ⟨b, v, rfl, hc, hf, ho, hne⟩
  · go_enter Tryz.func132, Tryz.ntmps132
    go_wp2
    go_end0
    exact ⟨rfl, .inl rfl, Wfr.refl _ _⟩
  · go_enter Tryz.func132, Tryz.ntmps132
    go_wp2_with (go_at_call 158; refine (putCount_any v l n hn _ (by omega) ho).mono ?_; rintro e w1 ⟨v', rfl, ho1, hon⟩; obtain ⟨ao, nn, c, rfl, _⟩ := ho1.form; obtain ⟨c1, f1, hw1, hw2⟩ := Wst.stored hc hf hne ho1 hon)
    go_end0
    exact ⟨rfl, hw1, hw2⟩
theorem wString (p : Value) (l : List UInt8) (s : ByteArray) (hs0 : s.size ≤ 140737488351232) (hs : p = .pointer none ∨ s.size ≤ 35184372088832) (w : World) (hl : l.length ≤ 35184372088832) (h : Wst w p l) :
    Calls Tryz.prog 160 #[p, .string s] w fun e w' => e = .returned (.tuple #[]) ∧ Wst w' p (l ++ countL s.size ++ s.data.toList) ∧ Wfr w w' p := by
  have hcl : (l ++ countL s.size).length ≤ 35184372088932 := by
    have h1 := countL_len s.size
    have h2 := clong_le s.size
    rw [List.length_append]
    omega
  have HS : Hid (p = .pointer none ∨ s.size ≤ 35184372088832) := hs
  clear hs
  go_enter Tryz.func160, Tryz.ntmps160
  go_wp2_with fail
  refine (wCount p l s.size (by unfold U64; omega) _ hl h).mono ?_
  rintro e w1 ⟨rfl, hw1, hw2⟩
  go_wp2_with fail
  refine (wBytes p (l ++ countL s.size) s HS.out _ hcl hw1).mono ?_
  rintro e w2 ⟨rfl, hw3, hw4⟩
  go_wp2
  go_end0
  exact ⟨rfl, hw3, hw2.trans hw4⟩
theorem wHash (p : Value) (l : List UInt8) (hh : List UInt8) (hhl : hh.length = 32) (w : World) (hl : l.length ≤ 35184372088832) (h : Wst w p l) :
    Calls Tryz.prog 71 #[p, .agg (hc hh)] w fun e w' => e = .returned (.tuple #[]) ∧ Wst w' p (l ++ hh) ∧ Wfr w w' p := by
  have hb : Below w.heap.size w (w.alloc (.cells (hc hh) 24)) := (Below.refl _ _).alloc (Nat.le_refl _) _
  have hcv := conv_row (w.alloc (.cells (hc hh) 24)) w.heap.size hh hhl 24 (heap_alloc_new w _)
  have hz : (⟨hh.toArray⟩ : ByteArray).size = 32 := by show hh.toArray.size = 32; simpa using hhl
  go_enter Tryz.func71, Tryz.ntmps71
  go_wp2_with (first | refine wpList_boxA rfl _ rfl (hc hh) rfl ?_ | (go_at_call 98; refine (wBytes p l ⟨hh.toArray⟩ (.inr (by omega)) _ (by omega) (h.below hb)).mono ?_; rintro e w1 ⟨rfl, hw1, hw2⟩))
  go_end0
  exact ⟨rfl, hw1, (Wfr.of_below h hb).trans hw2⟩
end
theorem lowL_mod (n k m : Nat) (h : 256 ^ k ∣ m) : lowL (n % m) k = lowL n k := by
  induction k generalizing n m with
  | zero => rfl
  | succ k ih =>
    have h256 : 256 ∣ m := Nat.dvd_trans ⟨256 ^ k, by rw [Nat.pow_succ, Nat.mul_comm]⟩ h
    simp only [lowL]
    rw [Nat.mod_mod_of_dvd n h256]
    obtain ⟨c, rfl⟩ := h256
    rw [Nat.mod_mul_right_div_self]
    congr 1
    apply ih
    rw [Nat.pow_succ, Nat.mul_comm] at h
    exact Nat.dvd_of_mul_dvd_mul_left (by decide) h
theorem lowL_swap (n : Nat) (h : n < 65536) : lowL (n % 256 * 256 + n / 256) 2 = (lowL n 2).reverse := by
  simp only [lowL, List.reverse_cons, List.reverse_nil, List.nil_append, List.cons_append]
  rw [show (n % 256 * 256 + n / 256) % 256 = n / 256 % 256 by omega, show (n % 256 * 256 + n / 256) / 256 = n % 256 by omega, Nat.mod_mod]
theorem turn_step (s : ByteArray) (j : Nat) (h : j < s.size) : (⟨(s.data.toList.drop (j + 1)).reverse.toArray⟩ : ByteArray) ++ s.extract j (j + 1) = ⟨(s.data.toList.drop j).reverse.toArray⟩ := by
  have e : s.data.toList.drop j = s[j] :: s.data.toList.drop (j + 1) := by
    rw [List.drop_eq_getElem_cons (by simpa using h)]; rfl
  rw [e]
  apply ByteArray.ext
  apply Array.ext'
  simp
  rw [e]
  rfl
section
set_option maxRecDepth 10000
set_option maxHeartbeats 4000000
end
end Go.Proofs.YtpffaaalncdjcaaGreatDoor
namespace Go.Proofs.YtpffaaalncdjcaaGreatDoor
open Go.RowKit
open Go.Deep
/-- A kind of elements: the type of a slice of such, their type, how many cells and bytes each has, and its cells. -/
structure Ek (α : Type) where
  t : TypeId
  e : TypeId
  k : Nat
  b : Nat
  enc : α → List Value
  kpos : 0 < k
  k24 : k ≤ 16777216
  sl : Tryz.prog.underlying t = some (.slice e)
  inf : (Tryz.prog.info? e).map (fun i => (i.zero.map (·.cells.size), i.size, i.bytes)) = some (some k, k, b)
  len : ∀ x, (enc x).length = k
  one : ∀ x, ∀ v ∈ enc x, v.oneCell' = true
section
variable {α : Type} (E : Ek α)
def flatE (L : List α) : List Value := (L.map E.enc).flatten
theorem flatE_nil : flatE E [] = [] := rfl
theorem flatE_cons (a : α) (L : List α) : flatE E (a :: L) = E.enc a ++ flatE E L := by simp [flatE]
theorem flatE_len (L : List α) : (flatE E L).length = L.length * E.k := by
  induction L with
  | nil => simp [flatE_nil]
  | cons a r ih => rw [flatE_cons, List.length_append, E.len, ih, List.length_cons, Nat.add_mul]; omega
theorem flatE_app (A B : List α) : flatE E (A ++ B) = flatE E A ++ flatE E B := by simp [flatE]
theorem flatE_one (a : α) : flatE E [a] = E.enc a := by simp [flatE]
theorem flatE_at (L : List α) : ∀ (i : Nat) (h : i < L.length), ∀ j, j < E.k → (flatE E L)[i * E.k + j]? = (E.enc L[i])[j]? := by
  induction L with
  | nil => intro i hi; simp at hi
  | cons a r ih =>
    intro i hi j hj
    have ha := E.len a
    rcases i with _ | i
    · rw [flatE_cons, List.getElem?_append_left (by omega)]
      simp
    · rw [flatE_cons, List.getElem?_append_right (by rw [Nat.add_mul]; omega), ha, show (i + 1) * E.k + j - E.k = i * E.k + j by rw [Nat.add_mul]; omega, ih i (by simpa using hi) j hj]
      rfl
theorem flatE_cell (L : List α) : ∀ v ∈ flatE E L, v.oneCell' = true := by
  intro v hv
  simp only [flatE, List.mem_flatten, List.mem_map] at hv
  obtain ⟨_, ⟨x, _, rfl⟩, hv⟩ := hv
  exact E.one x v hv
theorem Ek.parts : ∃ i z, Tryz.prog.info? E.e = some i ∧ i.zero = some z ∧ z.cells.size = E.k ∧ i.size = E.k ∧ i.bytes = E.b := by
  have h := E.inf
  cases hi : Tryz.prog.info? E.e with
  | none => rw [hi] at h; cases h
  | some i =>
    rw [hi] at h
    simp only [Option.map_some, Option.some.injEq, Prod.mk.injEq] at h
    obtain ⟨h1, h2, h3⟩ := h
    cases hz : i.zero with
    | none => rw [hz] at h1; cases h1
    | some z =>
      rw [hz] at h1
      exact ⟨i, z, rfl, hz, by simpa using h1, h2, h3⟩
/-- A slice that holds elements. -/
def LX (w : World) (v : Value) (L : List α) : Prop := ∃ ao cap, v = .slice ao L.length cap ∧ L.length ≤ cap ∧ ∀ (i : Nat) (h : i < L.length), ∃ g off, ao = some ⟨g, off, none⟩ ∧ g < w.heap.size ∧ w.rangeAt g (off + i * E.k) (E.enc L[i])
/-- A slice of the program's own making that holds elements. -/
def OX (w : World) (v : Value) (L : List α) : Prop := w.ownsRow 0 E.e E.k v L.length (flatE E L)
end
theorem rangeX_below {w W : World} {B g off : Nat} {cs : List Value} (hr : w.rangeAt g off cs) (hb : Below B w W) (hg : g < B) : W.rangeAt g off cs := fun j v hv => by
  have := hr j v hv
  rw [← this]
  exact hb.cell (p := ⟨g, off + j, none⟩) hg
section
variable {α : Type} {E : Ek α} {w W : World} {v : Value} {L : List α}
theorem LX.below (h : LX E w v L) (hb : Below w.heap.size w W) : LX E W v L := by
  obtain ⟨ao, cap, rfl, h2, h3⟩ := h
  refine ⟨ao, cap, rfl, h2, fun i hi => ?_⟩
  obtain ⟨g, off, e, hg, hr⟩ := h3 i hi
  exact ⟨g, off, e, Nat.lt_of_lt_of_le hg hb.size, rangeX_below hr hb hg⟩
theorem LX.form (h : LX E w v L) : ∃ ao cap, v = .slice ao L.length cap := by
  obtain ⟨ao, cap, e, _⟩ := h
  exact ⟨ao, cap, e⟩
theorem LX.base {ao : Option Addr} {n cap : Nat} (h : LX E w (.slice ao n cap) L) (h0 : 0 < L.length) : ∃ g off, ao = some ⟨g, off, none⟩ := by
  obtain ⟨_, _, e, _, h3⟩ := h
  injection e with e1
  obtain ⟨g, off, e2, _⟩ := h3 0 h0
  exact ⟨g, off, e1.trans e2⟩
theorem LX.range {g off n cap : Nat} (h : LX E w (.slice (some ⟨g, off, none⟩) n cap) L) (i : Nat) (hi : i < L.length) : w.rangeAt g (off + i * E.k) (E.enc L[i]) := by
  obtain ⟨_, _, e, _, h3⟩ := h
  injection e with e1
  subst e1
  obtain ⟨g', off', e2, _, hc⟩ := h3 i hi
  cases e2
  exact hc
theorem LX.lt {g off n cap : Nat} (h : LX E w (.slice (some ⟨g, off, none⟩) n cap) L) (h0 : 0 < L.length) : g < w.heap.size := by
  obtain ⟨_, _, e, _, h3⟩ := h
  injection e with e1
  subst e1
  obtain ⟨g', off', e2, hg, _⟩ := h3 0 h0
  cases e2
  exact hg
theorem LX.nil (w : World) : LX E w (.slice none 0 0) [] := ⟨none, 0, rfl, Nat.le_refl _, fun i hi => by simp at hi⟩
theorem OX.nil (w : World) : OX E w (.slice none 0 0) [] := World.ownsRow_nil _ _ _ _
theorem OX.form (h : OX E w v L) : ∃ ao c, v = .slice ao L.length c := by
  rcases h.2 with ⟨rfl, h0⟩ | ⟨g, cap, cur, rfl, _⟩
  · exact ⟨none, 0, by rw [h0]⟩
  · exact ⟨_, _, rfl⟩
theorem OX.of_block (h : OX E w v L) (hb : ∀ g, v.ownBlock = some g → W.heap[g]? = w.heap[g]?) : OX E W v L := by
  obtain ⟨h2, h3⟩ := h
  refine ⟨h2, ?_⟩
  rcases h3 with ⟨rfl, h0⟩ | ⟨g, cap, cur, rfl, h4, hg, h5⟩
  · exact .inl ⟨rfl, h0⟩
  · exact .inr ⟨g, cap, cur, rfl, h4, (hb g rfl).trans hg, h5⟩
theorem OX.lt (h : OX E w v L) : ∀ g, v.ownBlock = some g → g < w.heap.size := by
  intro g hg
  rcases h.2 with ⟨rfl, h0⟩ | ⟨g', cap, cur, rfl, h4, hb, h5⟩
  · cases hg
  · cases hg
    exact lt_heap hb
theorem OX.below (h : OX E w v L) (hb : Below w.heap.size w W) : OX E W v L := h.of_block fun g hg => hb.block _ (h.lt g hg)
theorem OX.read (h : OX E w v L) : LX E w v L := by
  obtain ⟨h2, h3⟩ := h
  rcases h3 with ⟨rfl, h0⟩ | ⟨g, cap, cur, rfl, hb, hg, hn, hm, hsz, ht⟩
  · exact ⟨none, 0, by rw [h0], by omega, fun i hi => by omega⟩
  · refine ⟨_, cap, rfl, hn, fun i hi => ⟨g, 0, rfl, lt_heap hg, fun j u hu => ?_⟩⟩
    have hj : j < E.k := by
      have := (List.getElem?_eq_some_iff.1 hu).1
      rw [E.len] at this
      exact this
    rw [cell_of_row w g _ cur E.e (0, 0) hg, ← Array.getElem?_toList]
    have e2 := flatE_at E L i hi j hj
    rw [hu, ← ht, List.getElem?_take] at e2
    have hlt : i * E.k + E.k ≤ L.length * E.k := by
      have := Nat.mul_le_mul_right E.k (show i + 1 ≤ L.length by omega)
      rw [Nat.add_mul] at this
      omega
    rw [if_pos (by omega)] at e2
    rw [show 0 + i * E.k + j = i * E.k + j by omega]
    exact e2
/-- The load of an element out of memory. -/
theorem Ek.load {W : World} {g off : Nat} (x : α) {kd : TypeDesc} (hu : Tryz.prog.underlying E.e = some kd) (hk : kd.isRow = true) (hr : W.rangeAt g off (E.enc x)) : (Instr.loadAt E.e (.pointer (some ⟨g, off, none⟩))).run Tryz.prog W = .ok (.agg (E.enc x).toArray) W := by
  obtain ⟨i, z, hi, _, _, hs, _⟩ := E.parts
  exact run_loadAt_mid W g off E.e _ _ hr hu hk (by rw [hi, E.len]; simp [hs])
/-- An append of elements. -/
theorem Ek.app {ty : TypeId} (hown : OX E w v L) (ad : Addr) (m c : Nat) (N : List α) (hm : m = N.length) (hnews : ∀ j u, (flatE E N)[j]? = some u → w.cell? (ad.add j) = some u)
    (hsm : (L.length + m) * E.b ≤ 140737488355328) (h63 : L.length + m ≤ maxLen) :
    ∃ v' w', (Builtin.append_ #[E.t, E.t] ty #[v, .slice (some ad) m c]).run Tryz.prog w = .ok v' w' ∧ OX E w' v' (L ++ N) ∧ Onto w w' v v' := by
  obtain ⟨i0, z, hi, hz0, hzs, hz1, hz2⟩ := E.parts
  obtain ⟨v', w', hr, h2, h3, _, h5⟩ := run_append_own_at (P := Tryz.prog) w 0 E.t ty E.e i0 z E.k E.b E.sl hi hz0 hz1 hz2 hzs E.kpos v L.length (flatE E L) hown ad m c (flatE E N) (by rw [flatE_len, hm]) hnews
    (flatE_cell E N) h63 hsm (Nat.zero_le _)
  refine ⟨v', w', hr, ?_, ⟨h3, ?_⟩⟩
  · unfold OX
    rw [List.length_append, flatE_app, ← hm]
    exact h2
  · rcases h5 with h5 | h5
    · exact .inl h5
    · exact .inr ⟨_, h5, Nat.le_refl _⟩
/-- A slice of one element. -/
theorem Ek.bs1 (w : World) (x : α) : (Instr.buildSlice E.t 1 #[(0, .agg (E.enc x).toArray)]).run Tryz.prog w = .ok (.slice (some ⟨w.heap.size, 0, none⟩) 1 1) (w.alloc (.cells (E.enc x).toArray E.e)) := by
  obtain ⟨i, z, hi, hz, hzs, hs, _⟩ := E.parts
  have hk := E.kpos
  have hcs : (Value.agg (E.enc x).toArray).cells.size = E.k := by
    show (E.enc x).toArray.size = E.k
    rw [List.size_toArray, E.len]
  obtain ⟨r, hr, hrs, hk⟩ := Great.fill_dense (s := E.k) E.kpos [Value.agg (E.enc x).toArray] 0 ((Array.range (1 * E.k)).map (z.cells[· % z.cells.size]!)) (fun v hv => by simp at hv; rw [hv]; exact hcs) (by simp)
  have e1 : r = (E.enc x).toArray := by
    apply Array.ext
    · rw [hrs, show (E.enc x).toArray.size = E.k by rw [List.size_toArray, E.len]]; simp
    · intro k h1 h2
      have hk1 : k < E.k := by rw [List.size_toArray, E.len] at h2; exact h2
      have := hk k
      rw [if_pos ⟨by omega, by simp; omega⟩, Array.getElem?_eq_getElem h1, show k / E.k - 0 = 0 by rw [Nat.div_eq_of_lt hk1], Nat.mod_eq_of_lt hk1] at this
      simp only [List.getElem?_cons_zero, Option.bind_some] at this
      rw [show (Value.agg (E.enc x).toArray).cells = (E.enc x).toArray from rfl, Array.getElem?_eq_getElem h2] at this
      exact Option.some.inj this
  rw [e1] at hr
  refine run_buildSlice (P := Tryz.prog) w E.t E.e 1 #[(0, .agg (E.enc x).toArray)] (E.enc x).toArray i z E.sl hi hz (by rw [hs]; have := E.k24; omega) (by rw [hs]; omega) ?_
  rw [hs]
  exact hr
theorem one_newX (w : World) (x : α) : ∀ j u, (flatE E [x])[j]? = some u → (w.alloc (.cells (E.enc x).toArray E.e)).cell? ((⟨w.heap.size, 0, none⟩ : Addr).add j) = some u := by
  intro j u hu
  rw [flatE_one] at hu
  have hadd : (⟨w.heap.size, 0, none⟩ : Addr).add j = ⟨w.heap.size, 0 + j, none⟩ := by unfold Addr.add; split <;> simp_all
  rw [hadd, cell_of_row _ _ _ _ _ _ (heap_alloc_last w _), Nat.zero_add]
  simpa using hu
end
end Go.Proofs.YtpffaaalncdjcaaGreatDoor
