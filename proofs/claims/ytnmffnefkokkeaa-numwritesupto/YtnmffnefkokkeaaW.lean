/- What a writer put a reader takes: the pieces of a text, one behind the other. -/
import Derived.Test.YtnmffnefkokkeaaT
namespace Go.Proofs.Ytnmffnefkokkeaa
open Go.RowKit
/-- The text of a list of bytes. -/
def txt (l : List UInt8) : ByteArray := ⟨l.toArray⟩
theorem txt_size (l : List UInt8) : (txt l).size = l.length := by show l.toArray.size = _; simp
theorem txt_list (l : List UInt8) : (txt l).data.toList = l := rfl
theorem txt_at (A P B : List UInt8) (c : UInt8) (h : A.length < (txt (A ++ (c :: P) ++ B)).size) : (txt (A ++ (c :: P) ++ B))[A.length] = c := by
  show (A ++ (c :: P) ++ B).toArray[A.length]'(by simp) = c
  simp
theorem rtake_piece (A P B : List UInt8) (n : Int) (hn : n = P.length) : rtake (txt (A ++ P ++ B)) A.length 0 n = ((A.length : Int) + n, 0, txt P) := by
  subst hn
  unfold rtake
  rw [if_neg (by simp), if_neg (by omega), if_neg (by rw [txt_size]; simp; omega)]
  congr 2
  have e : ((A.length : Int) + (P.length : Int)).toNat = A.length + P.length := by omega
  rw [e, Int.toNat_natCast]
  apply ByteArray.ext
  apply Array.ext'
  rw [ByteArray.data_extract, Array.toList_extract, List.extract_eq_take_drop, txt_list, txt_list, List.append_assoc, List.drop_left, show A.length + P.length - A.length = P.length by omega, List.take_left]
theorem takeC_piece_mark (A B : List UInt8) (m : UInt8) (n long : Nat) (hm : (m.toNat = 253 ∧ long = 2) ∨ (m.toNat = 254 ∧ long = 4) ∨ (m.toNat = 255 ∧ long = 8)) (hn : n < 256 ^ long) (hc : clong n = 1 + long) :
    takeC (txt (A ++ (m :: lowL n long) ++ B)) A.length = ((n : Int), (A.length : Int) + 1 + long, 0) := by
  have hz : A.length + 1 + long ≤ (txt (A ++ (m :: lowL n long) ++ B)).size := by rw [txt_size]; simp [lowL_len]; omega
  have hat := txt_at A (lowL n long) B m (by omega)
  have hna : numAt (txt (A ++ (m :: lowL n long) ++ B)) A.length long = n := by
    unfold numAt
    rw [txt_list, show A ++ (m :: lowL n long) ++ B = (A ++ [m]) ++ (lowL n long ++ B) by simp, show A.length + 1 = (A ++ [m]).length by simp, List.drop_left]
    rw [show List.take long (lowL n long ++ B) = lowL n long from by
      have := List.take_left (l₁ := lowL n long) (l₂ := B)
      rwa [lowL_len] at this]
    rw [getL_lowL, Nat.mod_eq_of_lt hn]
  have := takeC_ok (txt (A ++ (m :: lowL n long) ++ B)) A.length long (by omega) (by rw [hat]; exact hm) (by omega) (by rw [hna]; exact hc)
  rw [hna] at this
  exact this
theorem takeC_piece (A B : List UInt8) (n : Nat) (hn : U64 n) : takeC (txt (A ++ countL n ++ B)) A.length = ((n : Int), (A.length : Int) + (countL n).length, 0) := by
  have hn' := hn.lt
  have hl := countL_len n
  by_cases h1 : n < 253
  · have a : countL n = lowL n 1 := by unfold countL; rw [if_pos h1]
    have e : (UInt8.ofNat (n % 256)).toNat = n := by rw [UInt8.toNat_ofNat']; omega
    rw [a]
    have ha : lowL n 1 = [UInt8.ofNat (n % 256)] := rfl
    rw [ha]
    have hz : A.length < (txt (A ++ [UInt8.ofNat (n % 256)] ++ B)).size := by rw [txt_size]; simp
    have hat := txt_at A [] B (UInt8.ofNat (n % 256)) hz
    have := takeC_one (txt (A ++ [UInt8.ofNat (n % 256)] ++ B)) A.length hz (by rw [hat, e]; omega)
    rw [hat, e] at this
    exact this
  by_cases h2 : n ≤ 65535
  · have a : countL n = 253 :: lowL n 2 := by unfold countL; rw [if_neg h1, if_pos h2]
    have b : clong n = 3 := by unfold clong; rw [if_neg (by omega), if_pos (by omega)]
    rw [hl, a, takeC_piece_mark A B 253 n 2 (by decide) (by omega) b, b]
    congr 2
  by_cases h3 : n ≤ 4294967295
  · have a : countL n = 254 :: lowL n 4 := by unfold countL; rw [if_neg h1, if_neg h2, if_pos h3]
    have b : clong n = 5 := by unfold clong; rw [if_neg (by omega), if_neg (by omega), if_pos (by omega)]
    rw [hl, a, takeC_piece_mark A B 254 n 4 (by decide) (by omega) b, b]
    congr 2
  · have a : countL n = 255 :: lowL n 8 := by unfold countL; rw [if_neg h1, if_neg h2, if_neg h3]
    have b : clong n = 9 := by unfold clong; rw [if_neg (by omega), if_neg (by omega), if_neg (by omega)]
    rw [hl, a, takeC_piece_mark A B 255 n 8 (by decide) (by omega) b, b]
    congr 2
theorem rcnt_piece (A B : List UInt8) (n : Nat) (hn : U64 n) (most : Int) (hm : (n : Int) ≤ most) : rcnt (txt (A ++ countL n ++ B)) A.length 0 most = ((A.length : Int) + (countL n).length, 0, (n : Int)) := by
  unfold rcnt
  rw [takeC_piece A B n hn, if_neg (by simp), if_neg (by simp), if_neg (by show ¬ most < (n : Int); omega)]
/-- An act with which what was put is taken. -/
def kindOf (kind : Int) : Int := if kind < 0 ∨ 9 < kind then 9 else kind
theorem one_piece (A B : List UInt8) (kind n : Int) (x : Nat) (hx : U64 x) (s : ByteArray) (hs : s.size ≤ 35184372088832) :
    oneS (txt (A ++ putL kind n x s ++ B)) A.length 0 (kindOf kind) s.size 18446744073709551615 = ((A.length : Int) + (putL kind n x s).length, 0) := by
  have fix : ∀ (P : List UInt8) (k : Nat), P.length = k → (rtake (txt (A ++ P ++ B)) A.length 0 k).1 = (A.length : Int) + P.length ∧ (rtake (txt (A ++ P ++ B)) A.length 0 k).2.1 = 0 := by
    intro P k hk
    rw [rtake_piece A P B k (by omega)]
    exact ⟨by show (A.length : Int) + k = _; omega, rfl⟩
  by_cases hk : 0 ≤ kind ∧ kind ≤ 8
  · have ek : kindOf kind = kind := by unfold kindOf; rw [if_neg (by omega)]
    rw [ek]
    rcases (show kind = 0 ∨ kind = 1 ∨ kind = 2 ∨ kind = 3 ∨ kind = 4 ∨ kind = 5 ∨ kind = 6 ∨ kind = 7 ∨ kind = 8 by omega) with rfl | rfl | rfl | rfl | rfl | rfl | rfl | rfl | rfl
    · obtain ⟨a, b⟩ := fix (lowL x 1) 1 (lowL_len x 1)
      exact Prod.ext a b
    · obtain ⟨a, b⟩ := fix (lowL x 2) 2 (lowL_len x 2)
      exact Prod.ext a b
    · obtain ⟨a, b⟩ := fix (lowL x 4) 4 (lowL_len x 4)
      exact Prod.ext a b
    · obtain ⟨a, b⟩ := fix (lowL x 8) 8 (lowL_len x 8)
      exact Prod.ext a b
    · obtain ⟨a, b⟩ := fix (lowL x 2).reverse 2 (by rw [List.length_reverse]; exact lowL_len x 2)
      exact Prod.ext a b
    · show ((rcnt (txt (A ++ countL x ++ B)) A.length 0 (18446744073709551615 : Nat)).1, (rcnt (txt (A ++ countL x ++ B)) A.length 0 (18446744073709551615 : Nat)).2.1) = _
      rw [rcnt_piece A B x hx _ (by have := hx.lt; omega)]
      rfl
    · obtain ⟨a, b⟩ := fix s.data.toList s.size (by simp)
      exact Prod.ext a b
    · show ((rstr (txt (A ++ (countL s.size ++ s.data.toList) ++ B)) A.length 0 s.size).1, (rstr (txt (A ++ (countL s.size ++ s.data.toList) ++ B)) A.length 0 s.size).2.1) = ((A.length : Int) + ((countL s.size ++ s.data.toList).length : Int), 0)
      have e1 : A ++ (countL s.size ++ s.data.toList) ++ B = A ++ countL s.size ++ (s.data.toList ++ B) := by simp
      have e2 : A ++ countL s.size ++ (s.data.toList ++ B) = (A ++ countL s.size) ++ s.data.toList ++ B := by simp
      have hc := rcnt_piece A (s.data.toList ++ B) s.size (by unfold U64; omega) s.size (by omega)
      have ht := rtake_piece (A ++ countL s.size) s.data.toList B s.size (by simp)
      rw [← e2] at ht
      unfold rstr
      rw [e1, hc]
      have e3 : (((A.length : Int) + (countL s.size).length : Int)) = ((A ++ countL s.size).length : Int) := by simp
      rw [if_neg (by simp), if_neg (by omega)]
      dsimp only
      rw [if_neg (by simp), e3, ht, if_neg (by simp)]
      simp
      omega
    · obtain ⟨a, b⟩ := fix (hashL (n % 256).toNat) 32 (hashL_len _)
      exact Prod.ext a b
  · have ek : kindOf kind = 9 := by unfold kindOf; split <;> omega
    have ep : putL kind n x s = lowL (x % 2) 1 := by
      unfold putL
      rw [if_neg (by omega), if_neg (by omega), if_neg (by omega), if_neg (by omega), if_neg (by omega), if_neg (by omega), if_neg (by omega), if_neg (by omega), if_neg (by omega)]
    rw [ek, ep]
    show ((rbool (txt (A ++ lowL (x % 2) 1 ++ B)) A.length 0).1, (rbool (txt (A ++ lowL (x % 2) 1 ++ B)) A.length 0).2.1) = _
    have ht := rtake_piece A (lowL (x % 2) 1) B 1 (by rw [lowL_len]; rfl)
    have hg : getL (txt (lowL (x % 2) 1)).data.toList = x % 2 := by rw [txt_list, getL_lowL]; omega
    unfold rbool
    rw [ht]
    dsimp only
    rw [if_neg (by simp), hg, if_neg (by omega), lowL_len]
    rfl
end Go.Proofs.Ytnmffnefkokkeaa
