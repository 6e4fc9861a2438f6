/- The contracts of the methods of num.Reader, on one of the program's own. -/
import Derived.Test.YtnmffnefkokkeaaK
import Derived.Deep.QuietTactic
import Derived.BigQuiet
namespace Go.Proofs.Ytnmffnefkokkeaa
open Go.RowKit

/-- A reader of s at block b. -/
def Rst (w : World) (b : Nat) (s : ByteArray) (p err : Int) : Prop := w.heap[b]? = some (.cells #[.string s, .int .i64 p, .int .i64 err] 85 (0, 0))
/-- w' is w but for block b and new blocks. -/
structure Rfr (b : Nat) (w w' : World) : Prop where
  os : w'.os = w.os
  tape : w'.tape = w.tape
  output : w'.output = w.output
  size : w.heap.size ≤ w'.heap.size
  block : ∀ k, k < w.heap.size → k ≠ b → w'.heap[k]? = w.heap[k]?
theorem Rfr.refl (b : Nat) (w : World) : Rfr b w w := ⟨rfl, rfl, rfl, Nat.le_refl _, fun _ _ _ => rfl⟩
theorem Rfr.trans {b : Nat} {w w1 w2 : World} (h : Rfr b w w1) (k : Rfr b w1 w2) : Rfr b w w2 :=
  ⟨k.os.trans h.os, k.tape.trans h.tape, k.output.trans h.output, Nat.le_trans h.size k.size, fun i hi hb => (k.block i (Nat.lt_of_lt_of_le hi h.size) hb).trans (h.block i hi hb)⟩
theorem Rfr.drewN (b : Nat) (w : World) (n : Nat) : Rfr b w (w.drewN n) := ⟨rfl, rfl, rfl, Nat.le_refl _, fun _ _ _ => rfl⟩
theorem Rfr.below {b : Nat} {w w' : World} (h : Below w.heap.size w w') : Rfr b w w' := ⟨h.os, h.tape, h.output, h.size, fun k hk _ => h.block k hk⟩
theorem Rfr.setCell (b : Nat) (w : World) (i : Nat) (v : Value) : Rfr b w (w.setCell ⟨b, i, none⟩ v) :=
  ⟨rfl, rfl, rfl, by simp [World.setCell], fun k _ hk => Below.heap_setCell _ _ _ _ hk⟩
section
variable {w : World} {b : Nat} {s : ByteArray} {p err : Int}
theorem Rst.lt (h : Rst w b s p err) : b < w.heap.size := by
  rcases Nat.lt_or_ge b w.heap.size with hlt | hge
  · exact hlt
  · unfold Rst at h; rw [Array.getElem?_eq_none hge] at h; cases h
theorem Rst.c0 (h : Rst w b s p err) : w.cell? ⟨b, 0, none⟩ = some (.string s) := by rw [cell_of_row w b 0 _ _ _ h]; rfl
theorem Rst.c1 (h : Rst w b s p err) : w.cell? ⟨b, 1, none⟩ = some (.int .i64 p) := by rw [cell_of_row w b 1 _ _ _ h]; rfl
theorem Rst.c2 (h : Rst w b s p err) : w.cell? ⟨b, 2, none⟩ = some (.int .i64 err) := by rw [cell_of_row w b 2 _ _ _ h]; rfl
theorem Rst.f (h : Rst w b s p err) (i : Nat) : w.frozen? ⟨b, i, none⟩ = false := frozen_of_row w b i _ _ h
theorem Rst.set1 (h : Rst w b s p err) (q : Int) : Rst (w.setCell ⟨b, 1, none⟩ (.int .i64 q)) b s q err := heap_setCell_same w b 1 _ _ _ h
theorem Rst.set2 (h : Rst w b s p err) (q : Int) : Rst (w.setCell ⟨b, 2, none⟩ (.int .i64 q)) b s p q := heap_setCell_same w b 2 _ _ _ h
theorem Rst.drewN (h : Rst w b s p err) (n : Nat) : Rst (w.drewN n) b s p err := h
theorem Rst.below {w' : World} (h : Rst w b s p err) (hb : Below w.heap.size w w') : Rst w' b s p err := (hb.block b h.lt).trans h
end
/-- What is taken: the place, the error, the bytes. -/
def rtake (s : ByteArray) (p err n : Int) : Int × Int × ByteArray :=
  if err ≠ 0 then (p, err, ⟨#[]⟩) else if n < 0 then (p, 1, ⟨#[]⟩) else if (s.size : Int) - p < n then (p, 4, ⟨#[]⟩) else (p + n, 0, s.extract p.toNat (p + n).toNat)
theorem rtake_inv (s : ByteArray) (p err n : Int) (h0 : 0 ≤ p) (h1 : p ≤ s.size) : 0 ≤ (rtake s p err n).1 ∧ (rtake s p err n).1 ≤ s.size := by
  unfold rtake
  split
  · exact ⟨h0, h1⟩
  · split
    · exact ⟨h0, h1⟩
    · split
      · exact ⟨h0, h1⟩
      · constructor
        · show 0 ≤ p + n; omega
        · show p + n ≤ s.size; omega
theorem hide {q : Prop} (h : q) : Hid q := h
theorem rtake_size (s : ByteArray) (p err : Int) (n : Nat) (N : Int) (hN : N = n) (h0 : 0 ≤ p) : (rtake s p err N).2.2.size ≤ n := by
  subst hN
  have hz : (⟨#[]⟩ : ByteArray).size = 0 := rfl
  unfold rtake
  split
  · show (⟨#[]⟩ : ByteArray).size ≤ n; omega
  · split
    · show (⟨#[]⟩ : ByteArray).size ≤ n; omega
    · split
      · show (⟨#[]⟩ : ByteArray).size ≤ n; omega
      · show (s.extract p.toNat (p + n).toNat).size ≤ n
        simp; omega
theorem getL_lt' (l : List UInt8) (k m : Nat) (h : l.length ≤ k) (hm : m = 256 ^ k) : getL l < m := by
  subst hm
  exact Nat.lt_of_lt_of_le (getL_lt l) (Nat.pow_le_pow_right (by decide) h)

section
variable (b : Nat) (s : ByteArray) (w : World)
set_option maxRecDepth 10000
theorem rErr (p err : Int) (h : Rst w b s p err) : Calls Try.prog 26 #[.pointer (some ⟨b, 0, none⟩)] w fun e w' => e = .returned (.int .i64 err) ∧ w' = w := by
  have h2 := h.c2
  go_enter Try.func26, Try.ntmps26
  go_wp2
  go_ret
  exact ⟨rfl, rfl⟩
theorem rAt (p err : Int) (h : Rst w b s p err) : Calls Try.prog 27 #[.pointer (some ⟨b, 0, none⟩)] w fun e w' => e = .returned (.int .i64 p) ∧ w' = w := by
  have h1 := h.c1
  go_enter Try.func27, Try.ntmps27
  go_wp2
  go_ret
  exact ⟨rfl, rfl⟩
theorem rLeft (p err : Int) (h : Rst w b s p err) (hs : s.size ≤ maxLen) (h0 : 0 ≤ p) (h1 : p ≤ s.size) : Calls Try.prog 28 #[.pointer (some ⟨b, 0, none⟩)] w fun e w' => e = .returned (.int .i64 ((s.size : Int) - p)) ∧ ∃ n, w' = w.drewN n := by
  unfold maxLen at hs
  have hc0 := h.c0
  have hc1 := h.c1
  go_enter Try.func28, Try.ntmps28
  go_wp2
  go_quiet (fail)
  go_wp2
  go_ret
  exact ⟨rfl, _, rfl⟩
theorem rFail (p err n : Int) (h : Rst w b s p err) : Calls Try.prog 34 #[.pointer (some ⟨b, 0, none⟩), .int .i64 n] w fun e w' => e = .returned (.tuple #[]) ∧ Rst w' b s p (if err = 0 then n else err) ∧ Rfr b w w' := by
  have h2 := h.c2
  have hf := h.f 2
  by_cases he : err = 0
  · have he' : (err == 0) = true := by simp [he]
    rw [if_pos he]
    clear he
    go_enter Try.func34, Try.ntmps34
    go_wp2_with (go_at_call 26; refine (rErr b s _ p err h).mono ?_; rintro e w1 ⟨rfl, rfl⟩)
    go_end0
    exact ⟨rfl, h.set2 _, Rfr.setCell _ _ _ _⟩
  · have he' : (err == 0) = false := by simp [he]
    rw [if_neg he]
    clear he
    go_enter Try.func34, Try.ntmps34
    go_wp2_with (go_at_call 26; refine (rErr b s _ p err h).mono ?_; rintro e w1 ⟨rfl, rfl⟩)
    go_end0
    exact ⟨rfl, h, Rfr.refl _ _⟩
theorem rTake (p err n : Int) (h : Rst w b s p err) (hs : s.size ≤ maxLen) (h0 : 0 ≤ p) (h1 : p ≤ s.size) (hn : 0 ≤ n) (hn2 : n ≤ 9223372036854775807) : Calls Try.prog 70 #[.pointer (some ⟨b, 0, none⟩), .int .i64 n] w fun e w' => e = .returned (.string (rtake s p err n).2.2) ∧ Rst w' b s (rtake s p err n).1 (rtake s p err n).2.1 ∧ Rfr b w w' := by
  by_cases he : err = 0
  · subst he
    by_cases hc : (s.size : Int) - p < n
    · have hr : rtake s p 0 n = (p, 4, ⟨#[]⟩) := by unfold rtake; rw [if_neg (by simp), if_neg (by omega), if_pos hc]
      rw [hr]
      clear hr
      go_enter Try.func70, Try.ntmps70
      go_wp2_with fail
      refine (rErr b s _ p 0 h).mono ?_
      rintro e w1 ⟨rfl, rfl⟩
      go_wp2_with fail
      refine (rLeft b s _ p 0 h hs h0 h1).mono ?_
      rintro e w2 ⟨rfl, nq, rfl⟩
      have h2 := (h.drewN nq).c2
      have hf := (h.drewN nq).f 2
      go_wp2
      go_ret
      exact ⟨rfl, (h.drewN nq).set2 _, (Rfr.drewN b _ nq).trans (Rfr.setCell _ _ _ _)⟩
    · have hr : rtake s p 0 n = (p + n, 0, s.extract p.toNat (p + n).toNat) := by unfold rtake; rw [if_neg (by simp), if_neg (by omega), if_neg hc]
      rw [hr]
      clear hr
      unfold maxLen at hs
      obtain ⟨p, rfl⟩ := Int.eq_ofNat_of_zero_le h0
      obtain ⟨n, rfl⟩ := Int.eq_ofNat_of_zero_le hn
      have hpn : (p : Int) + (n : Int) ≤ s.size := by omega
      go_enter Try.func70, Try.ntmps70
      go_wp2_with fail
      refine (rErr b s _ p 0 h).mono ?_
      rintro e w1 ⟨rfl, rfl⟩
      go_wp2_with fail
      refine (rLeft b s _ p 0 h (by unfold maxLen; omega) h0 h1).mono ?_
      rintro e w2 ⟨rfl, nq, rfl⟩
      have hc0 := h.c0
      have hc1 := h.c1
      have hf := h.f 1
      have hadd : IntKind.i64.wrap ((p : Int) + (n : Int)) = (p : Int) + (n : Int) := wrap_small _ (by omega) (by omega)
      go_wp2
      go_quiet (fail)
      go_wp2
      go_ret
      have e1 : ((p : Int) + (n : Int)).toNat = p + n := by omega
      exact ⟨by rw [e1]; rfl, (h.drewN _).set1 _, (Rfr.drewN b _ _).trans (Rfr.setCell _ _ _ _)⟩
  · have hr : rtake s p err n = (p, err, ⟨#[]⟩) := by unfold rtake; rw [if_pos he]
    rw [hr]
    have he' : (err != 0) = true := by simp [he]
    clear he hr
    go_enter Try.func70, Try.ntmps70
    go_wp2_with (go_at_call 26; refine (rErr b s _ p err h).mono ?_; rintro e w1 ⟨rfl, rfl⟩)
    go_ret
    exact ⟨rfl, h, Rfr.refl _ _⟩
theorem rByte (p err : Int) (h : Rst w b s p err) (hs : s.size ≤ maxLen) (h0 : 0 ≤ p) (h1 : p ≤ s.size) : Calls Try.prog 35 #[.pointer (some ⟨b, 0, none⟩)] w fun e w' => e = .returned (.int .u8 (getL (rtake s p err 1).2.2.data.toList)) ∧ Rst w' b s (rtake s p err 1).1 (rtake s p err 1).2.1 ∧ Rfr b w w' := by
  have hz := rtake_size s p err 1 1 rfl h0
  have hg : getL (rtake s p err 1).2.2.data.toList < 256 := getL_lt' _ 1 _ (by simpa using hz) (by decide)
  have ht := fun w h => rTake b s w p err 1 h hs h0 h1 (by decide) (by decide)
  have HT := hide ht
  clear ht
  generalize rtake s p err 1 = R at *
  have hmod : (getL R.2.2.data.toList : Int) % 256 = getL R.2.2.data.toList := by omega
  go_enter Try.func35, Try.ntmps35
  go_wp2_with (first | (go_at_call 70; refine (HT.out _ h).mono ?_; rintro e w1 ⟨rfl, hr, hf⟩) | (go_at_call 46; refine (lowFirst_any _ _ (by omega)).mono ?_; rintro e w2 ⟨rfl, rfl⟩))
  go_ret
  exact ⟨rfl, hr, hf⟩
theorem rU16 (p err : Int) (h : Rst w b s p err) (hs : s.size ≤ maxLen) (h0 : 0 ≤ p) (h1 : p ≤ s.size) : Calls Try.prog 36 #[.pointer (some ⟨b, 0, none⟩)] w fun e w' => e = .returned (.int .u16 (getL (rtake s p err 2).2.2.data.toList)) ∧ Rst w' b s (rtake s p err 2).1 (rtake s p err 2).2.1 ∧ Rfr b w w' := by
  have hz := rtake_size s p err 2 2 rfl h0
  have hg : getL (rtake s p err 2).2.2.data.toList < 65536 := getL_lt' _ 2 _ (by simpa using hz) (by decide)
  have ht := fun w h => rTake b s w p err 2 h hs h0 h1 (by decide) (by decide)
  have HT := hide ht
  clear ht
  generalize rtake s p err 2 = R at *
  have hmod : (getL R.2.2.data.toList : Int) % 65536 = getL R.2.2.data.toList := by omega
  go_enter Try.func36, Try.ntmps36
  go_wp2_with (first | (go_at_call 70; refine (HT.out _ h).mono ?_; rintro e w1 ⟨rfl, hr, hf⟩) | (go_at_call 46; refine (lowFirst_any _ _ (by omega)).mono ?_; rintro e w2 ⟨rfl, rfl⟩))
  go_ret
  exact ⟨rfl, hr, hf⟩
theorem rU32 (p err : Int) (h : Rst w b s p err) (hs : s.size ≤ maxLen) (h0 : 0 ≤ p) (h1 : p ≤ s.size) : Calls Try.prog 37 #[.pointer (some ⟨b, 0, none⟩)] w fun e w' => e = .returned (.int .u32 (getL (rtake s p err 4).2.2.data.toList)) ∧ Rst w' b s (rtake s p err 4).1 (rtake s p err 4).2.1 ∧ Rfr b w w' := by
  have hz := rtake_size s p err 4 4 rfl h0
  have hg : getL (rtake s p err 4).2.2.data.toList < 4294967296 := getL_lt' _ 4 _ (by simpa using hz) (by decide)
  have ht := fun w h => rTake b s w p err 4 h hs h0 h1 (by decide) (by decide)
  have HT := hide ht
  clear ht
  generalize rtake s p err 4 = R at *
  have hmod : (getL R.2.2.data.toList : Int) % 4294967296 = getL R.2.2.data.toList := by omega
  go_enter Try.func37, Try.ntmps37
  go_wp2_with (first | (go_at_call 70; refine (HT.out _ h).mono ?_; rintro e w1 ⟨rfl, hr, hf⟩) | (go_at_call 46; refine (lowFirst_any _ _ (by omega)).mono ?_; rintro e w2 ⟨rfl, rfl⟩))
  go_ret
  exact ⟨rfl, hr, hf⟩
theorem rU64 (p err : Int) (h : Rst w b s p err) (hs : s.size ≤ maxLen) (h0 : 0 ≤ p) (h1 : p ≤ s.size) : Calls Try.prog 38 #[.pointer (some ⟨b, 0, none⟩)] w fun e w' => e = .returned (.int .u64 (getL (rtake s p err 8).2.2.data.toList)) ∧ Rst w' b s (rtake s p err 8).1 (rtake s p err 8).2.1 ∧ Rfr b w w' := by
  have hz := rtake_size s p err 8 8 rfl h0
  have hg : getL (rtake s p err 8).2.2.data.toList < 18446744073709551616 := getL_lt' _ 8 _ (by simpa using hz) (by decide)
  have ht := fun w h => rTake b s w p err 8 h hs h0 h1 (by decide) (by decide)
  have HT := hide ht
  clear ht
  generalize rtake s p err 8 = R at *
  have hmod : (getL R.2.2.data.toList : Int) % 18446744073709551616 = getL R.2.2.data.toList := by omega
  go_enter Try.func38, Try.ntmps38
  go_wp2_with (first | (go_at_call 70; refine (HT.out _ h).mono ?_; rintro e w1 ⟨rfl, hr, hf⟩) | (go_at_call 46; refine (lowFirst_any _ _ (by omega)).mono ?_; rintro e w2 ⟨rfl, rfl⟩))
  go_ret
  exact ⟨rfl, hr, hf⟩
end
end Go.Proofs.Ytnmffnefkokkeaa
