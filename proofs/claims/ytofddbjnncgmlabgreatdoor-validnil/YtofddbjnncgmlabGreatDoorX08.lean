/- num: the rest of the readers, and the document's: their contracts. num: the rest of the writers, and the document's Turned: their contracts. -/
import Derived.Test.YtofddbjnncgmlabGreatDoorX07
namespace Go.Proofs.YtofddbjnncgmlabGreatDoor
open Go.RowKit
open Go.Deep
section
set_option maxRecDepth 10000
set_option maxHeartbeats 4000000
def clong (n : Int) : Int := if n < 253 then 1 else if n ≤ 65535 then 3 else if n ≤ 4294967295 then 5 else 9
set_option maxHeartbeats 400000 in
theorem countLong_any (n : Int) (w : World) :
    Calls Tryz.prog 69 #[.int .u64 n] w fun e w' => e = .returned (.int .i64 (clong n)) ∧ w' = w := by
  unfold clong
  go_enter Tryz.func69, Tryz.ntmps69
  go_wp2
  all_goals go_ret
  all_goals (refine ⟨?_, rfl⟩; simp [*])
theorem get_step (s : ByteArray) (j : Nat) (h : j < s.size) (hb : leN (s.data.toList.drop (j + 1)) < 72057594037927936) :
    IntKind.u64.wrap (↑(leN (List.drop (j + 1) s.data.toList)) * 256 + IntKind.u64.wrap ↑s[j].toNat) = (leN (s.data.toList.drop j) : Int) := by
  have e := leN_dropL s.data.toList j (by simpa using h)
  have e2 : s.data.toList[j]'(by simpa using h) = s[j] := rfl
  have l := s[j].toNat_lt
  rw [e2] at e
  rw [wrapu (s[j].toNat : Int) (by omega) (by omega), wrapu _ (by omega) (by omega)]
  omega
/-- The bytes of a count. -/
def countL (n : Nat) : List UInt8 := if n < 253 then lowL n 1 else if n ≤ 65535 then 253 :: lowL n 2 else if n ≤ 4294967295 then 254 :: lowL n 4 else 255 :: lowL n 8
set_option maxRecDepth 10000 in
set_option maxHeartbeats 400000 in
theorem rcount_any (n : Nat) (hn : U64 n) (w : World) :
    Calls Tryz.prog 74 #[.int .u64 n] w fun e w' => e = .returned (.string ⟨(countL n).toArray⟩) ∧ Below w.heap.size w w' := by
  by_cases h1 : n < 253
  · have hL : countL n = lowL n 1 := by unfold countL; rw [if_pos h1]
    rw [hL]
    clear hL
    go_enter Tryz.func74, Tryz.ntmps74
    go_wp2_with (go_at_call 114; refine (low_any n 1 1 rfl hn _ (by omega)).mono ?_; rintro e w' ⟨rfl, hbel⟩)
    go_ret
    exact ⟨rfl, hbel⟩
  by_cases h2 : n ≤ 65535
  · have hL : countL n = 253 :: lowL n 2 := by unfold countL; rw [if_neg h1, if_pos h2]
    rw [hL]
    clear hL
    have hll := lowL_len n 2
    go_enter Tryz.func74, Tryz.ntmps74
    go_wp2_with (go_at_call 114; refine (low_any n 2 2 rfl hn _ (by omega)).mono ?_; rintro e w' ⟨rfl, hbel⟩)
    go_ret
    exact ⟨by simp [ByteArray.ext_iff], hbel⟩
  by_cases h3 : n ≤ 4294967295
  · have hL : countL n = 254 :: lowL n 4 := by unfold countL; rw [if_neg h1, if_neg h2, if_pos h3]
    rw [hL]
    clear hL
    have hll := lowL_len n 4
    go_enter Tryz.func74, Tryz.ntmps74
    go_wp2_with (go_at_call 114; refine (low_any n 4 4 rfl hn _ (by omega)).mono ?_; rintro e w' ⟨rfl, hbel⟩)
    go_ret
    exact ⟨by simp [ByteArray.ext_iff], hbel⟩
  · have hL : countL n = 255 :: lowL n 8 := by unfold countL; rw [if_neg h1, if_neg h2, if_neg h3]
    rw [hL]
    clear hL
    have hll := lowL_len n 8
    go_enter Tryz.func74, Tryz.ntmps74
    go_wp2_with (go_at_call 114; refine (low_any n 8 8 rfl hn _ (by omega)).mono ?_; rintro e w' ⟨rfl, hbel⟩)
    go_ret
    exact ⟨by simp [ByteArray.ext_iff], hbel⟩
/-- What is taken of a text as a count: the number, the place behind it, the error. -/
def takeC (s : ByteArray) (p : Int) : Int × Int × Int :=
  if p < 0 ∨ (s.size : Int) < p then (0, 0, 1) else
  if p = s.size then (0, 0, 4) else
  if (s.data.toList.getD p.toNat 0).toNat < 253 then (((s.data.toList.getD p.toNat 0).toNat : Int), p + 1, 0) else
  if s.size - p.toNat - 1 < (if (s.data.toList.getD p.toNat 0).toNat = 253 then 2 else if (s.data.toList.getD p.toNat 0).toNat = 254 then 4 else 8) then (0, 0, 4) else
  if clong (leN ((s.data.toList.drop (p.toNat + 1)).take (if (s.data.toList.getD p.toNat 0).toNat = 253 then 2 else if (s.data.toList.getD p.toNat 0).toNat = 254 then 4 else 8))) ≠ 1 + (if (s.data.toList.getD p.toNat 0).toNat = 253 then 2 else if (s.data.toList.getD p.toNat 0).toNat = 254 then 4 else 8) then (0, 0, 6) else
  ((leN ((s.data.toList.drop (p.toNat + 1)).take (if (s.data.toList.getD p.toNat 0).toNat = 253 then 2 else if (s.data.toList.getD p.toNat 0).toNat = 254 then 4 else 8)) : Int), p + 1 + (if (s.data.toList.getD p.toNat 0).toNat = 253 then 2 else if (s.data.toList.getD p.toNat 0).toNat = 254 then 4 else 8), 0)
/-- The number that stands behind a mark. -/
def numAt (s : ByteArray) (k long : Nat) : Nat := leN ((s.data.toList.drop (k + 1)).take long)
theorem getD_at (s : ByteArray) (k : Nat) (h : k < s.size) : s.data.toList.getD k 0 = s[k] := by
  rw [List.getD_eq_getElem?_getD, List.getElem?_eq_getElem (by simpa using h)]
  rfl
theorem takeC_arg (s : ByteArray) (p : Int) (h : p < 0 ∨ (s.size : Int) < p) : takeC s p = (0, 0, 1) := by
  unfold takeC; rw [if_pos h]
theorem takeC_end (s : ByteArray) : takeC s s.size = (0, 0, 4) := by
  unfold takeC; rw [if_neg (by omega), if_pos rfl]
theorem takeC_one (s : ByteArray) (k : Nat) (h : k < s.size) (hb : s[k].toNat < 253) : takeC s k = ((s[k].toNat : Int), (k : Int) + 1, 0) := by
  unfold takeC; simp only [Int.toNat_natCast, getD_at s k h]; rw [if_neg (by omega), if_neg (by omega), if_pos hb]
theorem takeC_cut (s : ByteArray) (k long : Nat) (h : k < s.size) (hb : (s[k].toNat = 253 ∧ long = 2) ∨ (s[k].toNat = 254 ∧ long = 4) ∨ (s[k].toNat = 255 ∧ long = 8)) (hc : s.size - k - 1 < long) : takeC s k = (0, 0, 4) := by
  unfold takeC; simp only [Int.toNat_natCast, getD_at s k h]; rw [if_neg (by omega), if_neg (by omega), if_neg (by omega), if_pos]
  rcases hb with ⟨e, rfl⟩ | ⟨e, rfl⟩ | ⟨e, rfl⟩ <;> simp [e, hc]
theorem takeC_form (s : ByteArray) (k long : Nat) (h : k < s.size) (hb : (s[k].toNat = 253 ∧ long = 2) ∨ (s[k].toNat = 254 ∧ long = 4) ∨ (s[k].toNat = 255 ∧ long = 8)) (hc : ¬ s.size - k - 1 < long) (hf : clong (numAt s k long) ≠ 1 + long) : takeC s k = (0, 0, 6) := by
  unfold numAt at hf
  unfold takeC; simp only [Int.toNat_natCast, getD_at s k h]
  rcases hb with ⟨e, rfl⟩ | ⟨e, rfl⟩ | ⟨e, rfl⟩ <;> (simp only [e]; rw [if_neg (by omega), if_neg (by omega), if_neg (by omega), if_neg (by simpa using hc), if_pos (by simpa using hf)])
theorem takeC_ok (s : ByteArray) (k long : Nat) (h : k < s.size) (hb : (s[k].toNat = 253 ∧ long = 2) ∨ (s[k].toNat = 254 ∧ long = 4) ∨ (s[k].toNat = 255 ∧ long = 8)) (hc : ¬ s.size - k - 1 < long) (hf : clong (numAt s k long) = 1 + long) : takeC s k = ((numAt s k long : Int), (k : Int) + 1 + long, 0) := by
  unfold numAt at *
  unfold takeC; simp only [Int.toNat_natCast, getD_at s k h]
  rcases hb with ⟨e, rfl⟩ | ⟨e, rfl⟩ | ⟨e, rfl⟩ <;> (simp only [e]; rw [if_neg (by omega), if_neg (by omega), if_neg (by omega), if_neg (by simpa using hc), if_neg (by simpa using hf)]; simp)
theorem numAt_ext (s : ByteArray) (k long : Nat) : leN (s.extract (k + 1) (k + 1 + long)).data.toList = numAt s k long := by
  unfold numAt
  congr 1
  rw [ByteArray.data_extract, Array.toList_extract, List.extract_eq_take_drop, show k + 1 + long - (k + 1) = long by omega]
theorem numAt_ext2 (s : ByteArray) (k long : Nat) (h : k + 1 + long ≤ s.size) : leN ((s.extract (k + 1) s.size).extract 0 long).data.toList = numAt s k long := by
  unfold numAt
  congr 1
  rw [ByteArray.data_extract, Array.toList_extract, List.extract_eq_take_drop, ByteArray.data_extract, Array.toList_extract, List.extract_eq_take_drop]
  simp only [List.drop_zero, Nat.sub_zero]
  rw [List.take_take, Nat.min_eq_left (by omega)]
def tc (x : Int × Int × Int) : Ending := .returned (.tuple #[.int .u64 x.1, .int .i64 x.2.1, .int .i64 x.2.2])
theorem countL_len (n : Nat) : ((countL n).length : Int) = clong n := by
  by_cases h1 : n < 253
  · have a : countL n = lowL n 1 := by unfold countL; rw [if_pos h1]
    have b : clong n = 1 := by unfold clong; rw [if_pos (by omega)]
    rw [a, b, lowL_len]; rfl
  by_cases h2 : n ≤ 65535
  · have a : countL n = 253 :: lowL n 2 := by unfold countL; rw [if_neg h1, if_pos h2]
    have b : clong n = 3 := by unfold clong; rw [if_neg (by omega), if_pos (by omega)]
    rw [a, b, List.length_cons, lowL_len]; rfl
  by_cases h3 : n ≤ 4294967295
  · have a : countL n = 254 :: lowL n 4 := by unfold countL; rw [if_neg h1, if_neg h2, if_pos h3]
    have b : clong n = 5 := by unfold clong; rw [if_neg (by omega), if_neg (by omega), if_pos (by omega)]
    rw [a, b, List.length_cons, lowL_len]; rfl
  · have a : countL n = 255 :: lowL n 8 := by unfold countL; rw [if_neg h1, if_neg h2, if_neg h3]
    have b : clong n = 9 := by unfold clong; rw [if_neg (by omega), if_neg (by omega), if_neg (by omega)]
    rw [a, b, List.length_cons, lowL_len]; rfl
theorem numAt_lt (s : ByteArray) (k long : Nat) (h : long ≤ 8) : U64 (numAt s k long) := by
  unfold U64 numAt
  have h1 := leN_lt ((s.data.toList.drop (k + 1)).take long)
  have h2 : 256 ^ ((s.data.toList.drop (k + 1)).take long).length ≤ 256 ^ 8 := Nat.pow_le_pow_right (by decide) (by rw [List.length_take]; omega)
  have h3 : 256 ^ 8 = 18446744073709551616 := by decide
  omega
theorem U64.byte (b : UInt8) : U64 b.toNat := by
  have := b.toNat_lt
  unfold U64; omega
end
theorem two_belowQ (w : World) (A B : Obj) : Below w.heap.size w ((w.alloc A).alloc B) := ((Below.refl _ _).alloc (Nat.le_refl _) _).alloc (by simp) _
theorem swap_eq (n : Nat) (hn : n < 65536) : bits BinOp.or IntKind.u16 (IntKind.u16.wrap ((n : Int) * 256)) ((n : Int) / 256) = ((n % 256 * 256 + n / 256 : Nat) : Int) := by
  rw [IntKind.wrap_u16, bits_join .u16 16 (by decide) (fun n h0 h1 => by rw [IntKind.wrap_u16]; omega) 8 _ _ (by omega) (by omega) (by omega) (by omega) (by omega) (by omega)]
  omega
section
set_option maxRecDepth 10000
set_option maxHeartbeats 4000000
/-- What a count is read as: the place, the error, the number. -/
def rcnt (s : ByteArray) (p err most : Int) : Int × Int × Int :=
  if err ≠ 0 then (p, err, 0) else if (takeC s p).2.2 ≠ 0 then (p, (takeC s p).2.2, 0) else if most < (takeC s p).1 then (p, 5, 0) else ((takeC s p).2.1, 0, (takeC s p).1)
/-- What is known of a count that was taken. -/
theorem takeC_facts (s : ByteArray) (p : Int) (h0 : 0 ≤ p) (h1 : p ≤ s.size) : 0 ≤ (takeC s p).1 ∧ (takeC s p).1 < 18446744073709551616 ∧ ((takeC s p).2.2 ≠ 0 → (takeC s p).1 = 0) ∧ ((takeC s p).2.2 = 0 → p ≤ (takeC s p).2.1 ∧ (takeC s p).2.1 ≤ s.size) := by
  obtain ⟨k, rfl⟩ := Int.eq_ofNat_of_zero_le h0
  by_cases he : k = s.size
  · subst he; rw [takeC_end]; simp
  have hlt : k < s.size := by omega
  have hb := s[k].toNat_lt
  by_cases h3 : s[k].toNat < 253
  · rw [takeC_one s k hlt h3]
    exact ⟨by show (0 : Int) ≤ s[k].toNat; omega, by show (s[k].toNat : Int) < _; omega, fun h => absurd rfl h, fun _ => ⟨by show (k : Int) ≤ k + 1; omega, by show (k : Int) + 1 ≤ s.size; omega⟩⟩
  obtain ⟨long, hl, hl8⟩ : ∃ long : Nat, ((s[k].toNat = 253 ∧ long = 2) ∨ (s[k].toNat = 254 ∧ long = 4) ∨ (s[k].toNat = 255 ∧ long = 8)) ∧ long ≤ 8 := by
    rcases (show s[k].toNat = 253 ∨ s[k].toNat = 254 ∨ s[k].toNat = 255 by omega) with e | e | e
    · exact ⟨2, .inl ⟨e, rfl⟩, by omega⟩
    · exact ⟨4, .inr (.inl ⟨e, rfl⟩), by omega⟩
    · exact ⟨8, .inr (.inr ⟨e, rfl⟩), by omega⟩
  by_cases hc : s.size - k - 1 < long
  · rw [takeC_cut s k long hlt hl hc]; simp
  by_cases hf : clong (numAt s k long) = 1 + long
  · rw [takeC_ok s k long hlt hl hc hf]
    have := (numAt_lt s k long hl8).lt
    exact ⟨by show (0 : Int) ≤ numAt s k long; omega, by show (numAt s k long : Int) < _; omega, fun h => absurd rfl h, fun _ => ⟨by show (k : Int) ≤ k + 1 + long; omega, by show (k : Int) + 1 + long ≤ s.size; omega⟩⟩
  · rw [takeC_form s k long hlt hl hc hf]; simp
theorem rcnt_inv (s : ByteArray) (p err most : Int) (h0 : 0 ≤ p) (h1 : p ≤ s.size) : 0 ≤ (rcnt s p err most).1 ∧ (rcnt s p err most).1 ≤ s.size ∧ 0 ≤ (rcnt s p err most).2.2 ∧ (rcnt s p err most).2.2 < 18446744073709551616 ∧ ((rcnt s p err most).2.1 = 0 → (rcnt s p err most).2.2 ≤ most) ∧ ((rcnt s p err most).2.1 ≠ 0 → (rcnt s p err most).2.2 = 0 ∧ (rcnt s p err most).1 = p) := by
  obtain ⟨f1, f2, f3, f4⟩ := takeC_facts s p h0 h1
  unfold rcnt
  split
  · rename_i he; exact ⟨h0, h1, by simp, by simp, fun h => absurd h he, fun _ => ⟨rfl, rfl⟩⟩
  · split
    · rename_i he; exact ⟨h0, h1, by simp, by simp, fun h => absurd h he, fun _ => ⟨rfl, rfl⟩⟩
    · split
      · exact ⟨h0, h1, by simp, by simp, fun h => absurd h (show ¬ (5 : Int) = 0 by decide), fun _ => ⟨rfl, rfl⟩⟩
      · rename_i he hm
        have := f4 (by simpa using he)
        exact ⟨by show 0 ≤ (takeC s p).2.1; omega, this.2, f1, f2, fun _ => by show (takeC s p).1 ≤ most; omega, fun h => absurd rfl h⟩
end
section
variable (b : Nat) (s : ByteArray) (w : World)
set_option maxRecDepth 10000
set_option maxHeartbeats 4000000
/-- Two bytes, the highest first. -/
def swap (n : Nat) : Nat := n % 256 * 256 + n / 256
/-- A byte as yes or no: the place, the error, the answer. -/
def rbool (s : ByteArray) (p err : Int) : Int × Int × Bool :=
  if (rtake s p err 1).2.1 ≠ 0 then (p, (rtake s p err 1).2.1, false) else if 1 < leN (rtake s p err 1).2.2.data.toList then (p, 6, false) else ((rtake s p err 1).1, 0, leN (rtake s p err 1).2.2.data.toList == 1)
/-- Where nothing is taken the place stays, and there are no bytes. -/
theorem rtake_err (s : ByteArray) (p err n : Int) (h : (rtake s p err n).2.1 ≠ 0) : (rtake s p err n).1 = p ∧ (rtake s p err n).2.2 = ⟨#[]⟩ := by
  unfold rtake at h ⊢
  split
  · exact ⟨rfl, rfl⟩
  · split
    · exact ⟨rfl, rfl⟩
    · split
      · exact ⟨rfl, rfl⟩
      · rename_i h1 h2 h3; rw [if_neg h1, if_neg h2, if_neg h3] at h; exact absurd rfl h
theorem rtake_ok (s : ByteArray) (p err n : Int) (h : (rtake s p err n).2.1 = 0) : err = 0 ∧ (rtake s p err n).1 = p + n ∧ 0 ≤ n ∧ n ≤ s.size - p ∧ (rtake s p err n).2.2 = s.extract p.toNat (p + n).toNat := by
  unfold rtake at h ⊢
  split
  · rename_i h1; rw [if_pos h1] at h; exact absurd h h1
  · split
    · rename_i h1 h2; rw [if_neg h1, if_pos h2] at h; exact absurd h (show ¬ (1 : Int) = 0 by decide)
    · split
      · rename_i h1 h2 h3; rw [if_neg h1, if_neg h2, if_pos h3] at h; exact absurd h (show ¬ (4 : Int) = 0 by decide)
      · rename_i h1 h2 h3; exact ⟨by simpa using h1, rfl, by omega, by omega, rfl⟩
/-- The error, or that bytes are left. -/
def rend (s : ByteArray) (p err : Int) : Int := if err = 0 then (if p < s.size then 5 else 0) else err
end
theorem Rfr.new {b : Nat} {w w1 : World} {A B : Obj} (hlt : b < w.heap.size) (h : Rfr b ((w.alloc A).alloc B).drew w1) : w1.heap[w.heap.size]? = some A ∧ w1.heap[w.heap.size + 1]? = some B := by
  have hz : ((w.alloc A).alloc B).drew.heap.size = w.heap.size + 2 := by simp
  exact ⟨(h.block _ (by omega) (by omega)).trans (heap_alloc2_old w A B), (h.block _ (by omega) (by omega)).trans (heap_alloc2_new w A B)⟩
theorem Rfr.setRow {b : Nat} {w w1 : World} (h : Rfr b w w1) (g : Nat) (hg : w.heap.size ≤ g) (cs : Array Value) : Rfr b w (w1.setRow g cs) :=
  ⟨h.os, h.tape, h.output, by have := h.size; simpa using this, fun k hk hb => (setRow_other w1 g k _ (by omega)).trans (h.block k hk hb)⟩
theorem Rst.setRow {w : World} {b : Nat} {s : ByteArray} {p err : Int} (h : Rst w b s p err) (g : Nat) (hg : b ≠ g) (cs : Array Value) : Rst (w.setRow g cs) b s p err := (setRow_other w g b _ hg).trans h
theorem two_drew {b : Nat} (w : World) (A B : Obj) : Rfr b w ((w.alloc A).alloc B).drew := Rfr.below ((two_belowQ w A B).drew)
/-- The bytes of a hash that was taken. -/
def hashOf (R : Int × Int × ByteArray) : List UInt8 := if R.2.1 ≠ 0 then zeros else R.2.2.data.toList
theorem copy_none (w : World) (d : Option Addr) (a b : Nat) : (Builtin.copy_ #[155, 9] 3 #[.slice d a b, .string ⟨#[]⟩]).run Tryz.prog w = .ok (.int .i64 0) w := by
  have h0 : (⟨#[]⟩ : ByteArray).size = 0 := rfl
  have h1 : Nat.min 0 a = 0 := by simp
  cases d <;> simp [Builtin.copy_, run_underlying Tryz.underlying155, Builtin.lenOf, Builtin.firstCells, h0, h1, storeCells, goInt]
theorem copy33 (w : World) (g : Nat) (s : ByteArray) (hs : s.size = 32) (l0 : List UInt8) (hl0 : l0.length = 32) (t : TypeId) (hg : w.heap[g]? = some (.cells (hc l0) t (0, 0))) :
    (Builtin.copy_ #[155, 9] 3 #[.slice (some ⟨g, 0, none⟩) 32 32, .string s]).run Tryz.prog w = .ok (.int .i64 32) (w.setRow g (hc s.data.toList)) := by
  have hle : (cellsL s.data.toList).length = 32 := by rw [cellsL_len]; simpa using hs
  have hst := run_storeCells_from (P := Tryz.prog) g t (cellsL s.data.toList) 0 (hc l0) w hg (by rw [hle, hc_size, hl0]) (fun v hv => by simp only [cellsL, List.mem_map] at hv; obtain ⟨b, _, rfl⟩ := hv; rfl)
  have hm : Nat.min 32 32 = 32 := by decide
  have htk : List.take 32 (List.map (fun b : UInt8 => Value.int IntKind.u8 (b.toNat : Int)) s.data.toList) = cellsL s.data.toList := by
    rw [List.take_of_length_le (by rw [← hle]; exact Nat.le_refl _)]
    rfl
  simp only [List.take_zero, List.nil_append] at hst
  simp [Builtin.copy_, run_underlying Tryz.underlying155, Builtin.lenOf, Builtin.firstCells, hs, hm, goInt]
  rw [htk, hst]
  simp [Result.andThen, hc]
section
variable (b : Nat) (s : ByteArray) (w : World)
set_option maxRecDepth 10000
set_option maxHeartbeats 4000000
end
end Go.Proofs.YtofddbjnncgmlabGreatDoor
namespace Go.Proofs.YtofddbjnncgmlabGreatDoor
open Go.RowKit
open Go.Deep
section
set_option maxRecDepth 10000
set_option maxHeartbeats 4000000
set_option maxRecDepth 10000 in
set_option maxHeartbeats 400000 in
theorem putCount_any (v : Value) (l : List UInt8) (n : Nat) (hn : U64 n) (w : World) (hl : l.length ≤ 70368744170000) (hown : Own w v l) :
    Calls Tryz.prog 93 #[v, .int .u64 n] w fun e w' => ∃ v', e = .returned v' ∧ Own w' v' (l ++ countL n) ∧ Onto w w' v v' := by
  by_cases h1 : n < 253
  · have hc : clong n = 1 := by unfold clong; repeat (first | rw [if_pos (by omega)] | rw [if_neg (by omega)])
    have hL : countL n = lowL n 1 := by unfold countL; rw [if_pos h1]
    rw [hL]
    clear hL
    go_enter Tryz.func93, Tryz.ntmps93
    go_wp2_with (first | (go_at_call 69; refine (countLong_any _ _).mono ?_; rintro e w1 ⟨rfl, rfl⟩; rw [hc]) | (go_at_call 125; refine (putLow_any v l n 1 1 rfl hn _ (by omega) (by omega) hown).mono ?_; rintro e w' ⟨v', rfl, ho, hon⟩))
    go_ret
    exact ⟨v', rfl, ho, hon⟩
  by_cases h2 : n ≤ 65535
  · have hc : clong n = 3 := by unfold clong; repeat (first | rw [if_pos (by omega)] | rw [if_neg (by omega)])
    have hL : countL n = 253 :: lowL n 2 := by unfold countL; rw [if_neg h1, if_pos h2]
    rw [hL]
    clear hL
    go_enter Tryz.func93, Tryz.ntmps93
    go_wp2_with (first | (go_at_call 69; refine (countLong_any _ _).mono ?_; rintro e w1 ⟨rfl, rfl⟩; rw [hc]) | (at_builtin; refine wpList_app rfl _ _ rfl v _ rfl (hown.alloc _) ⟨_, 0, none⟩ 1 1 [253] rfl rfl (one_new _ _ _ rfl) (by omega) ?_; intro v' w3 hown' hon3) | (go_at_call 125; refine (putLow_any v' (l ++ [253]) n 2 2 rfl hn _ (by omega) (by simp; omega) hown').mono ?_; rintro e w' ⟨v2, rfl, ho, hon⟩))
    go_ret
    exact ⟨v2, rfl, by simpa using ho, ((Onto.refl _ _).alloc _).trans (hon3.trans hon)⟩
  by_cases h3 : n ≤ 4294967295
  · have hc : clong n = 5 := by unfold clong; repeat (first | rw [if_pos (by omega)] | rw [if_neg (by omega)])
    have hL : countL n = 254 :: lowL n 4 := by unfold countL; rw [if_neg h1, if_neg h2, if_pos h3]
    rw [hL]
    clear hL
    go_enter Tryz.func93, Tryz.ntmps93
    go_wp2_with (first | (go_at_call 69; refine (countLong_any _ _).mono ?_; rintro e w1 ⟨rfl, rfl⟩; rw [hc]) | (at_builtin; refine wpList_app rfl _ _ rfl v _ rfl (hown.alloc _) ⟨_, 0, none⟩ 1 1 [254] rfl rfl (one_new _ _ _ rfl) (by omega) ?_; intro v' w3 hown' hon3) | (go_at_call 125; refine (putLow_any v' (l ++ [254]) n 4 4 rfl hn _ (by omega) (by simp; omega) hown').mono ?_; rintro e w' ⟨v2, rfl, ho, hon⟩))
    go_ret
    exact ⟨v2, rfl, by simpa using ho, ((Onto.refl _ _).alloc _).trans (hon3.trans hon)⟩
  · have hc : clong n = 9 := by unfold clong; repeat (first | rw [if_pos (by omega)] | rw [if_neg (by omega)])
    have hL : countL n = 255 :: lowL n 8 := by unfold countL; rw [if_neg h1, if_neg h2, if_neg h3]
    rw [hL]
    clear hL
    go_enter Tryz.func93, Tryz.ntmps93
    go_wp2_with (first | (go_at_call 69; refine (countLong_any _ _).mono ?_; rintro e w1 ⟨rfl, rfl⟩; rw [hc]) | (at_builtin; refine wpList_app rfl _ _ rfl v _ rfl (hown.alloc _) ⟨_, 0, none⟩ 1 1 [255] rfl rfl (one_new _ _ _ rfl) (by omega) ?_; intro v' w3 hown' hon3) | (go_at_call 125; refine (putLow_any v' (l ++ [255]) n 8 8 rfl hn _ (by omega) (by simp; omega) hown').mono ?_; rintro e w' ⟨v2, rfl, ho, hon⟩))
    go_ret
    exact ⟨v2, rfl, by simpa using ho, ((Onto.refl _ _).alloc _).trans (hon3.trans hon)⟩
theorem clong_le (n : Int) : clong n ≤ 9 := by unfold clong; repeat' split <;> omega
theorem wCount (p : Value) (l : List UInt8) (n : Nat) (hn : U64 n) (w : World) (hl : l.length ≤ 35184372088832) (h : Wst w p l) :
    Calls Tryz.prog 58 #[p, .int .u64 n] w fun e w' => e = .returned (.tuple #[]) ∧ Wst w' p (l ++ countL n) ∧ Wfr w w' p := by
  rcases h with rfl | ⟨b, v, rfl, hc, hf, ho, hne⟩
  · go_enter Tryz.func58, Tryz.ntmps58
    go_wp2
    go_end0
    exact ⟨rfl, .inl rfl, Wfr.refl _ _⟩
  · go_enter Tryz.func58, Tryz.ntmps58
    go_wp2_with (go_at_call 93; refine (putCount_any v l n hn _ (by omega) ho).mono ?_; rintro e w1 ⟨v', rfl, ho1, hon⟩; obtain ⟨ao, nn, c, rfl, _⟩ := ho1.form; obtain ⟨c1, f1, hw1, hw2⟩ := Wst.stored hc hf hne ho1 hon)
    go_end0
    exact ⟨rfl, hw1, hw2⟩
theorem wString (p : Value) (l : List UInt8) (s : ByteArray) (hs0 : s.size ≤ 140737488351232) (hs : p = .pointer none ∨ s.size ≤ 35184372088832) (w : World) (hl : l.length ≤ 35184372088832) (h : Wst w p l) :
    Calls Tryz.prog 96 #[p, .string s] w fun e w' => e = .returned (.tuple #[]) ∧ Wst w' p (l ++ countL s.size ++ s.data.toList) ∧ Wfr w w' p := by
  have hcl : (l ++ countL s.size).length ≤ 35184372088932 := by
    have h1 := countL_len s.size
    have h2 := clong_le s.size
    rw [List.length_append]
    omega
  have HS : Hid (p = .pointer none ∨ s.size ≤ 35184372088832) := hs
  clear hs
  go_enter Tryz.func96, Tryz.ntmps96
  go_wp2_with fail
  refine (wCount p l s.size (by unfold U64; omega) _ hl h).mono ?_
  rintro e w1 ⟨rfl, hw1, hw2⟩
  go_wp2_with fail
  refine (wBytes p (l ++ countL s.size) s HS.out _ hcl hw1).mono ?_
  rintro e w2 ⟨rfl, hw3, hw4⟩
  go_wp2
  go_end0
  exact ⟨rfl, hw3, hw2.trans hw4⟩
theorem wBool (p : Value) (l : List UInt8) (b : Bool) (w : World) (hl : l.length ≤ 35184372088832) (h : Wst w p l) :
    Calls Tryz.prog 94 #[p, .bool b] w fun e w' => e = .returned (.tuple #[]) ∧ Wst w' p (l ++ lowL (if b then 1 else 0) 1) ∧ Wfr w w' p := by
  cases b
  · go_enter Tryz.func94, Tryz.ntmps94
    go_wp2_with (go_at_call 126; refine (wByte p l 0 (by omega) _ hl h).mono ?_; rintro e w1 ⟨rfl, hw1, hw2⟩)
    go_end0
    exact ⟨rfl, hw1, hw2⟩
  · go_enter Tryz.func94, Tryz.ntmps94
    go_wp2_with (go_at_call 126; refine (wByte p l 1 (by omega) _ hl h).mono ?_; rintro e w1 ⟨rfl, hw1, hw2⟩)
    go_end0
    exact ⟨rfl, hw1, hw2⟩
theorem wHash (p : Value) (l : List UInt8) (hh : List UInt8) (hhl : hh.length = 32) (w : World) (hl : l.length ≤ 35184372088832) (h : Wst w p l) :
    Calls Tryz.prog 56 #[p, .agg (hc hh)] w fun e w' => e = .returned (.tuple #[]) ∧ Wst w' p (l ++ hh) ∧ Wfr w w' p := by
  have hb : Below w.heap.size w (w.alloc (.cells (hc hh) 25)) := (Below.refl _ _).alloc (Nat.le_refl _) _
  have hcv := conv_row (w.alloc (.cells (hc hh) 25)) w.heap.size hh hhl 25 (heap_alloc_new w _)
  have hz : (⟨hh.toArray⟩ : ByteArray).size = 32 := by show hh.toArray.size = 32; simpa using hhl
  go_enter Tryz.func56, Tryz.ntmps56
  go_wp2_with (first | refine wpList_boxA rfl _ rfl (hc hh) rfl ?_ | (go_at_call 64; refine (wBytes p l ⟨hh.toArray⟩ (.inr (by omega)) _ (by omega) (h.below hb)).mono ?_; rintro e w1 ⟨rfl, hw1, hw2⟩))
  go_end0
  exact ⟨rfl, hw1, (Wfr.of_below h hb).trans hw2⟩
end
theorem lowL_mod (n k m : Nat) (h : 256 ^ k ∣ m) : lowL (n % m) k = lowL n k := by
  induction k generalizing n m with
  | zero => rfl
  | succ k ih =>
    have h256 : 256 ∣ m := Nat.dvd_trans ⟨256 ^ k, by rw [Nat.pow_succ, Nat.mul_comm]⟩ h
    simp only [lowL]
    rw [Nat.mod_mod_of_dvd n h256]
    obtain ⟨c, rfl⟩ := h256
    rw [Nat.mod_mul_right_div_self]
    congr 1
    apply ih
    rw [Nat.pow_succ, Nat.mul_comm] at h
    exact Nat.dvd_of_mul_dvd_mul_left (by decide) h
theorem lowL_swap (n : Nat) (h : n < 65536) : lowL (n % 256 * 256 + n / 256) 2 = (lowL n 2).reverse := by
  simp only [lowL, List.reverse_cons, List.reverse_nil, List.nil_append, List.cons_append]
  rw [show (n % 256 * 256 + n / 256) % 256 = n / 256 % 256 by omega, show (n % 256 * 256 + n / 256) / 256 = n % 256 by omega, Nat.mod_mod]
theorem turn_step (s : ByteArray) (j : Nat) (h : j < s.size) : (⟨(s.data.toList.drop (j + 1)).reverse.toArray⟩ : ByteArray) ++ s.extract j (j + 1) = ⟨(s.data.toList.drop j).reverse.toArray⟩ := by
  have e : s.data.toList.drop j = s[j] :: s.data.toList.drop (j + 1) := by
    rw [List.drop_eq_getElem_cons (by simpa using h)]; rfl
  rw [e]
  apply ByteArray.ext
  apply Array.ext'
  simp
  rw [e]
  rfl
section
set_option maxRecDepth 10000
set_option maxHeartbeats 4000000
end
end Go.Proofs.YtofddbjnncgmlabGreatDoor
