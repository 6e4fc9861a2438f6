/- Texts read as hashes: the contract of the document's Parse. -/
import Derived.Test.YtnmffnefkokkeaaZe
namespace Go.Proofs.Ytnmffnefkokkeaa
open Go.RowKit
open Go.Deep
theorem good_ge (l : List UInt8) (k : Nat) (hk : k ≤ l.length) (h1 : (l.take k).all isD = true) : k ≤ good l := by
  induction l generalizing k with
  | nil => simp at hk; omega
  | cons b r ih =>
    cases k with
    | zero => omega
    | succ k =>
      simp only [List.take_succ_cons, List.all_cons, Bool.and_eq_true] at h1
      have := ih k (by simpa using hk) h1.2
      unfold good at this ⊢
      rw [List.takeWhile_cons, if_pos h1.1, List.length_cons]
      omega
/-- What Parse answers: the bytes, the place; -1: it is one. -/
def parseS (s : ByteArray) : ByteArray × Int := if min (good s.data.toList) 64 < 64 ∨ 64 < s.size then (⟨#[]⟩, ((min (good s.data.toList) 64 : Nat) : Int)) else (⟨(unhexL s.data.toList).reverse.toArray⟩, -1)
theorem parseS_long (s : ByteArray) (h : 64 < s.size) (ha : (s.data.toList.take 64).all isD = true) : parseS s = (⟨#[]⟩, 64) := by
  have := good_ge s.data.toList 64 (by simp; omega) ha
  unfold parseS
  rw [if_pos (.inr h), show min (good s.data.toList) 64 = 64 by omega]
  rfl
theorem parseS_bad (s : ByteArray) (k : Nat) (h : k < s.size) (hk : k < 64) (ha : (s.data.toList.take k).all isD = true) (hb : isD s[k] = false) : parseS s = (⟨#[]⟩, (k : Int)) := by
  have e := good_at s.data.toList k (by simp; omega) ha (fun _ => hb)
  unfold parseS
  rw [if_pos (.inl (by omega)), e, show min k 64 = k by omega]
theorem parseS_short (s : ByteArray) (h : s.size < 64) (ha : s.data.toList.all isD = true) : parseS s = (⟨#[]⟩, (s.size : Int)) := by
  have e := good_full s ha
  unfold parseS
  rw [if_pos (.inl (by omega)), e, show min s.size 64 = s.size by omega]
theorem parseS_ok (s : ByteArray) (h : s.size = 64) (ha : s.data.toList.all isD = true) : parseS s = (⟨(unhexL s.data.toList).reverse.toArray⟩, -1) := by
  have e := good_full s ha
  unfold parseS
  rw [if_neg (by omega)]
section
set_option maxRecDepth 10000
set_option maxHeartbeats 400000
theorem rparse_any (s : ByteArray) (hs : s.size ≤ 281474976710656) (w : World) : Calls Try.prog 17 #[.string s] w fun e w' =>
    e = .returned (.tuple #[.string (parseS s).1, .int .i64 (parseS s).2]) ∧ Below w.heap.size w w' := by
  go_enter Try.func17, Try.ntmps17
  go_wp2
  go_loop [4] (fun c => ∃ k : Nat, k ≤ s.size ∧ k ≤ 64 ∧ c = .int .i64 k ∧ Hid ((s.data.toList.take k).all isD = true)) (fun c => (s.size - intOf c).toNat)
  case atStart => exact ⟨0, Nat.zero_le _, by omega, rfl, by simp [Hid]⟩
  case round =>
    obtain ⟨k, hk, hk64, rfl, ha⟩ := hrel
    by_cases hlt : k < s.size
    · by_cases h64 : k = 64
      · subst h64
        have HG := hide (parseS_long s hlt ha.out)
        have h64b : ((64 : Nat) : Int) = 64 := rfl
        rw [h64b]
        have hlt' : (64 : Int) < s.size := by omega
        go_wp2
        go_ret2
        exact ⟨by rw [HG.out]; rfl, Below.refl _ _⟩
      · have h64' : ((k : Int) == 64) = false := by simp; omega
        by_cases hd : isD s[k] = true
        · have hv : vd s[k].toNat ≠ 16 := by simpa [isD] using hd
          have hv' : ((vd s[k].toNat : Int) == 16) = false := by simp; omega
          have HS := hide (all_snoc s k hlt ha.out hd)
          clear hd
          go_wp2_with (go_at_call 52; refine (value_any _ _).mono ?_; rintro e w1 ⟨rfl, rfl⟩)
          exact ⟨⟨k + 1, by omega, by omega, by go_num, HS.out⟩, by simp [intOf]; omega⟩
        · have hd2 : isD s[k] = false := by simpa using hd
          have hv : vd s[k].toNat = 16 := by simpa [isD] using hd2
          have HG := hide (parseS_bad s k hlt (by omega) ha.out hd2)
          clear hd
          go_wp2_with (go_at_call 52; refine (value_any _ _).mono ?_; rintro e w1 ⟨rfl, rfl⟩)
          go_ret2
          exact ⟨by rw [HG.out]; rfl, Below.refl _ _⟩
    · have hke : k = s.size := by omega
      have hal : s.data.toList.all isD = true := by
        have := ha.out
        rwa [List.take_of_length_le (by simp; omega)] at this
      clear ha
      by_cases hsh : s.size < 64
      · have HG := hide (parseS_short s hsh hal)
        go_wp2
        go_ret2
        exact ⟨by rw [HG.out]; rfl, Below.refl _ _⟩
      · have h64 : s.size = 64 := by omega
        have HG := hide (parseS_ok s h64 hal)
        have HU := hide fun W => runhex_any s hs W
        rw [unhexS_ok s hal (by omega)] at HU
        have hz : (⟨(unhexL s.data.toList).toArray⟩ : ByteArray).size ≤ maxLen := by
          show (unhexL s.data.toList).toArray.size ≤ maxLen
          rw [List.size_toArray, unhexL_len]
          unfold maxLen
          simp
          omega
        have HT := hide fun W => turned_any (⟨(unhexL s.data.toList).toArray⟩ : ByteArray) hz W
        clear hal hz
        go_wp2_with (first | (go_at_call 15; refine (HU.out _).mono ?_; rintro e w1 ⟨rfl, hbel⟩) | (go_at_call 21; refine (HT.out _).mono ?_; rintro e w2 ⟨rfl, rfl⟩))
        go_ret2
        exact ⟨by rw [HG.out]; rfl, hbel⟩
end
end Go.Proofs.Ytnmffnefkokkeaa
