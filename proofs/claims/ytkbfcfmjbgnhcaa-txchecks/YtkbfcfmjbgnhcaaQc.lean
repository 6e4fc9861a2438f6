/- num: the rest of the writers, and the document's Turned: their contracts. -/
import Derived.Test.YtkbfcfmjbgnhcaaQa
namespace Go.Proofs.Ytkbfcfmjbgnhcaa
open Go.RowKit
open Go.Deep
section
set_option maxRecDepth 10000
set_option maxHeartbeats 4000000
set_option maxRecDepth 10000 in
set_option maxHeartbeats 400000 in
theorem putCount_any (v : Value) (l : List UInt8) (n : Nat) (hn : U64 n) (w : World) (hl : l.length ≤ 70368744170000) (hown : Own w v l) :
    Calls Try.prog 30 #[v, .int .u64 n] w fun e w' => ∃ v', e = .returned v' ∧ Own w' v' (l ++ countL n) ∧ Onto w w' v v' := by
  by_cases h1 : n < 253
  · have hc : clong n = 1 := by unfold clong; repeat (first | rw [if_pos (by omega)] | rw [if_neg (by omega)])
    have hL : countL n = lowL n 1 := by unfold countL; rw [if_pos h1]
    rw [hL]
    clear hL
    go_enter Try.func30, Try.ntmps30
    go_wp2_with (first | (go_at_call 41; refine (countLong_any _ _).mono ?_; rintro e w1 ⟨rfl, rfl⟩; rw [hc]) | (go_at_call 40; refine (putLow_any v l n 1 1 rfl hn _ (by omega) (by omega) hown).mono ?_; rintro e w' ⟨v', rfl, ho, hon⟩))
    go_ret
    exact ⟨v', rfl, ho, hon⟩
  by_cases h2 : n ≤ 65535
  · have hc : clong n = 3 := by unfold clong; repeat (first | rw [if_pos (by omega)] | rw [if_neg (by omega)])
    have hL : countL n = 253 :: lowL n 2 := by unfold countL; rw [if_neg h1, if_pos h2]
    rw [hL]
    clear hL
    go_enter Try.func30, Try.ntmps30
    go_wp2_with (first | (go_at_call 41; refine (countLong_any _ _).mono ?_; rintro e w1 ⟨rfl, rfl⟩; rw [hc]) | (at_builtin; refine wpList_app rfl _ _ rfl v _ rfl (hown.alloc _) ⟨_, 0, none⟩ 1 1 [253] rfl rfl (one_new _ _ _ rfl) (by omega) ?_; intro v' w3 hown' hon3) | (go_at_call 40; refine (putLow_any v' (l ++ [253]) n 2 2 rfl hn _ (by omega) (by simp; omega) hown').mono ?_; rintro e w' ⟨v2, rfl, ho, hon⟩))
    go_ret
    exact ⟨v2, rfl, by simpa using ho, ((Onto.refl _ _).alloc _).trans (hon3.trans hon)⟩
  by_cases h3 : n ≤ 4294967295
  · have hc : clong n = 5 := by unfold clong; repeat (first | rw [if_pos (by omega)] | rw [if_neg (by omega)])
    have hL : countL n = 254 :: lowL n 4 := by unfold countL; rw [if_neg h1, if_neg h2, if_pos h3]
    rw [hL]
    clear hL
    go_enter Try.func30, Try.ntmps30
    go_wp2_with (first | (go_at_call 41; refine (countLong_any _ _).mono ?_; rintro e w1 ⟨rfl, rfl⟩; rw [hc]) | (at_builtin; refine wpList_app rfl _ _ rfl v _ rfl (hown.alloc _) ⟨_, 0, none⟩ 1 1 [254] rfl rfl (one_new _ _ _ rfl) (by omega) ?_; intro v' w3 hown' hon3) | (go_at_call 40; refine (putLow_any v' (l ++ [254]) n 4 4 rfl hn _ (by omega) (by simp; omega) hown').mono ?_; rintro e w' ⟨v2, rfl, ho, hon⟩))
    go_ret
    exact ⟨v2, rfl, by simpa using ho, ((Onto.refl _ _).alloc _).trans (hon3.trans hon)⟩
  · have hc : clong n = 9 := by unfold clong; repeat (first | rw [if_pos (by omega)] | rw [if_neg (by omega)])
    have hL : countL n = 255 :: lowL n 8 := by unfold countL; rw [if_neg h1, if_neg h2, if_neg h3]
    rw [hL]
    clear hL
    go_enter Try.func30, Try.ntmps30
    go_wp2_with (first | (go_at_call 41; refine (countLong_any _ _).mono ?_; rintro e w1 ⟨rfl, rfl⟩; rw [hc]) | (at_builtin; refine wpList_app rfl _ _ rfl v _ rfl (hown.alloc _) ⟨_, 0, none⟩ 1 1 [255] rfl rfl (one_new _ _ _ rfl) (by omega) ?_; intro v' w3 hown' hon3) | (go_at_call 40; refine (putLow_any v' (l ++ [255]) n 8 8 rfl hn _ (by omega) (by simp; omega) hown').mono ?_; rintro e w' ⟨v2, rfl, ho, hon⟩))
    go_ret
    exact ⟨v2, rfl, by simpa using ho, ((Onto.refl _ _).alloc _).trans (hon3.trans hon)⟩
theorem clong_le (n : Int) : clong n ≤ 9 := by unfold clong; repeat' split <;> omega
theorem wCount (p : Value) (l : List UInt8) (n : Nat) (hn : U64 n) (w : World) (hl : l.length ≤ 35184372088832) (h : Wst w p l) :
    Calls Try.prog 21 #[p, .int .u64 n] w fun e w' => e = .returned (.tuple #[]) ∧ Wst w' p (l ++ countL n) ∧ Wfr w w' p := by
  rcases h with rfl | ⟨b, v, rfl, hc, hf, ho, hne⟩
  · go_enter Try.func21, Try.ntmps21
    go_wp2
    go_end0
    exact ⟨rfl, .inl rfl, Wfr.refl _ _⟩
  · go_enter Try.func21, Try.ntmps21
    go_wp2_with (go_at_call 30; refine (putCount_any v l n hn _ (by omega) ho).mono ?_; rintro e w1 ⟨v', rfl, ho1, hon⟩; obtain ⟨ao, nn, c, rfl, _⟩ := ho1.form; obtain ⟨c1, f1, hw1, hw2⟩ := Wst.stored hc hf hne ho1 hon)
    go_end0
    exact ⟨rfl, hw1, hw2⟩
theorem wString (p : Value) (l : List UInt8) (s : ByteArray) (hs0 : s.size ≤ 140737488351232) (hs : p = .pointer none ∨ s.size ≤ 35184372088832) (w : World) (hl : l.length ≤ 35184372088832) (h : Wst w p l) :
    Calls Try.prog 23 #[p, .string s] w fun e w' => e = .returned (.tuple #[]) ∧ Wst w' p (l ++ countL s.size ++ s.data.toList) ∧ Wfr w w' p := by
  have hcl : (l ++ countL s.size).length ≤ 35184372088932 := by
    have h1 := countL_len s.size
    have h2 := clong_le s.size
    rw [List.length_append]
    omega
  have HS : Hid (p = .pointer none ∨ s.size ≤ 35184372088832) := hs
  clear hs
  go_enter Try.func23, Try.ntmps23
  go_wp2_with fail
  refine (wCount p l s.size (by unfold U64; omega) _ hl h).mono ?_
  rintro e w1 ⟨rfl, hw1, hw2⟩
  go_wp2_with fail
  refine (wBytes p (l ++ countL s.size) s HS.out _ hcl hw1).mono ?_
  rintro e w2 ⟨rfl, hw3, hw4⟩
  go_wp2
  go_end0
  exact ⟨rfl, hw3, hw2.trans hw4⟩
theorem wHash (p : Value) (l : List UInt8) (hh : List UInt8) (hhl : hh.length = 32) (w : World) (hl : l.length ≤ 35184372088832) (h : Wst w p l) :
    Calls Try.prog 22 #[p, .agg (hc hh)] w fun e w' => e = .returned (.tuple #[]) ∧ Wst w' p (l ++ hh) ∧ Wfr w w' p := by
  have hb : Below w.heap.size w (w.alloc (.cells (hc hh) 44)) := (Below.refl _ _).alloc (Nat.le_refl _) _
  have hcv := conv_row (w.alloc (.cells (hc hh) 44)) w.heap.size hh hhl 44 (heap_alloc_new w _)
  have hz : (⟨hh.toArray⟩ : ByteArray).size = 32 := by show hh.toArray.size = 32; simpa using hhl
  go_enter Try.func22, Try.ntmps22
  go_wp2_with (first | refine wpList_boxA rfl _ rfl (hc hh) rfl ?_ | (go_at_call 31; refine (wBytes p l ⟨hh.toArray⟩ (.inr (by omega)) _ (by omega) (h.below hb)).mono ?_; rintro e w1 ⟨rfl, hw1, hw2⟩))
  go_end0
  exact ⟨rfl, hw1, (Wfr.of_below h hb).trans hw2⟩
end
theorem lowL_mod (n k m : Nat) (h : 256 ^ k ∣ m) : lowL (n % m) k = lowL n k := by
  induction k generalizing n m with
  | zero => rfl
  | succ k ih =>
    have h256 : 256 ∣ m := Nat.dvd_trans ⟨256 ^ k, by rw [Nat.pow_succ, Nat.mul_comm]⟩ h
    simp only [lowL]
    rw [Nat.mod_mod_of_dvd n h256]
    obtain ⟨c, rfl⟩ := h256
    rw [Nat.mod_mul_right_div_self]
    congr 1
    apply ih
    rw [Nat.pow_succ, Nat.mul_comm] at h
    exact Nat.dvd_of_mul_dvd_mul_left (by decide) h
theorem lowL_swap (n : Nat) (h : n < 65536) : lowL (n % 256 * 256 + n / 256) 2 = (lowL n 2).reverse := by
  simp only [lowL, List.reverse_cons, List.reverse_nil, List.nil_append, List.cons_append]
  rw [show (n % 256 * 256 + n / 256) % 256 = n / 256 % 256 by omega, show (n % 256 * 256 + n / 256) / 256 = n % 256 by omega, Nat.mod_mod]
theorem turn_step (s : ByteArray) (j : Nat) (h : j < s.size) : (⟨(s.data.toList.drop (j + 1)).reverse.toArray⟩ : ByteArray) ++ s.extract j (j + 1) = ⟨(s.data.toList.drop j).reverse.toArray⟩ := by
  have e : s.data.toList.drop j = s[j] :: s.data.toList.drop (j + 1) := by
    rw [List.drop_eq_getElem_cons (by simpa using h)]; rfl
  rw [e]
  apply ByteArray.ext
  apply Array.ext'
  simp
  rw [e]
  rfl
section
set_option maxRecDepth 10000
set_option maxHeartbeats 4000000
end
end Go.Proofs.Ytkbfcfmjbgnhcaa
