/- Texts to the base 16: the contracts of num's goodDigits, pairs, Unhex and of the document's Hex and Unhex. -/
import Derived.Test.YtnmffnefkokkeaaY
import Derived.Deep.RegionLaw
namespace Go.Proofs.Ytnmffnefkokkeaa
open Go.RowKit
theorem good_at (l : List UInt8) (k : Nat) (hk : k ≤ l.length) (h1 : (l.take k).all isD = true) (h2 : ∀ h : k < l.length, isD l[k] = false) : good l = k := by
  induction l generalizing k with
  | nil => simp at hk; subst hk; rfl
  | cons b r ih =>
    cases k with
    | zero =>
      have := h2 (by simp)
      simp at this
      simp [good, this]
    | succ k =>
      simp only [List.take_succ_cons, List.all_cons, Bool.and_eq_true] at h1
      have := ih k (by simpa using hk) h1.2 (fun h => h2 (by simpa using h))
      unfold good at this ⊢
      rw [List.takeWhile_cons, if_pos h1.1, List.length_cons, this]
theorem all_snoc (s : ByteArray) (k : Nat) (h : k < s.size) (ha : (s.data.toList.take k).all isD = true) (hb : isD s[k] = true) : (s.data.toList.take (k + 1)).all isD = true := by
  rw [take_snoc s k h, List.all_append, ha]
  simp [hb]
section
set_option maxRecDepth 10000
set_option maxHeartbeats 400000
theorem goodDigits_any (s : ByteArray) (hs : s.size ≤ maxLen) (w : World) : Calls Try.prog 50 #[.string s] w fun e w' => e = .returned (.int .i64 (good s.data.toList)) ∧ w' = w := by
  unfold maxLen at hs
  go_enter Try.func50, Try.ntmps50
  go_wp2
  go_loop [3, 6] (fun _ c => ∃ k : Nat, k ≤ s.size ∧ c = .int .i64 k ∧ Hid ((s.data.toList.take k).all isD = true)) (fun _ c => (s.size - intOf c).toNat)
  case atStart => exact ⟨0, Nat.zero_le _, rfl, by simp [Hid]⟩
  case round =>
    obtain ⟨k, hk, rfl, ha⟩ := hrel
    by_cases hlt : k < s.size
    · by_cases hd : isD s[k] = true
      · have hd' : (vd s[k].toNat != 16) = true := hd
        have HS := hide (all_snoc s k hlt ha.out hd)
        clear hd
        go_wp2_with (go_at_call 73; refine (isDigit_any _ _).mono ?_; rintro e w1 ⟨rfl, rfl⟩)
        exact ⟨⟨k + 1, by omega, by go_num, HS.out⟩, by simp [intOf]; omega⟩
      · have hd' : (vd s[k].toNat != 16) = false := by
          have : isD s[k] = false := by simpa using hd
          exact this
        have HG := hide (good_at s.data.toList k (by simpa using hk) ha.out (fun h => by
          have : isD s[k] = false := by simpa using hd
          exact this))
        clear hd
        go_wp2_with (go_at_call 73; refine (isDigit_any _ _).mono ?_; rintro e w1 ⟨rfl, rfl⟩)
        go_ret
        exact ⟨by rw [HG.out]; rfl, rfl⟩
    · have hke : k = s.size := by omega
      have HG := hide (good_at s.data.toList k (by simpa using hk) ha.out (fun h => absurd h (by simp; omega)))
      go_wp2
      go_ret
      exact ⟨by rw [HG.out, hke]; rfl, rfl⟩
theorem dig_one (n : Nat) (h : n < 16) : (⟨#[48, 49, 50, 51, 52, 53, 54, 55, 56, 57, 97, 98, 99, 100, 101, 102]⟩ : ByteArray).extract n (n + 1) = ⟨#[hexb n]⟩ := by
  have : ∀ n : Fin 16, (⟨#[48, 49, 50, 51, 52, 53, 54, 55, 56, 57, 97, 98, 99, 100, 101, 102]⟩ : ByteArray).extract n.val (n.val + 1) = ⟨#[hexb n.val]⟩ := by decide
  exact this ⟨n, h⟩
theorem rdigit_any (N : Int) (h0 : 0 ≤ N) (h1 : N < 16) (w : World) : Calls Try.prog 54 #[.int .u8 N] w fun e w' => e = .returned (.string ⟨#[hexb N.toNat]⟩) ∧ w' = w := by
  obtain ⟨n, rfl⟩ := Int.eq_ofNat_of_zero_le h0
  have e := dig_one n (by omega)
  rw [Int.toNat_natCast]
  go_enter Try.func54, Try.ntmps54
  go_wp2
  go_ret
  exact ⟨rfl, rfl⟩
theorem cat2 (s : ByteArray) (k : Nat) (h : k < s.size) : (⟨(hexL (s.data.toList.take k)).toArray⟩ : ByteArray) ++ ((⟨#[hexb ((s[k].toNat : Int) / 16).toNat]⟩ : ByteArray) ++ ⟨#[hexb ((s[k].toNat : Int) % 16).toNat]⟩) = ⟨(hexL (s.data.toList.take (k + 1))).toArray⟩ := by
  rw [hexL_snoc s k h, show ((s[k].toNat : Int) / 16).toNat = s[k].toNat / 16 by omega, show ((s[k].toNat : Int) % 16).toNat = s[k].toNat % 16 by omega]
  apply ByteArray.ext
  apply Array.ext'
  simp
theorem rHex_any (s : ByteArray) (hs : s.size ≤ 35184372088832) (w : World) : Calls Try.prog 20 #[.string s] w fun e w' => e = .returned (.string ⟨(hexL s.data.toList).toArray⟩) ∧ ∃ n, w' = w.drewN n := by
  go_enter Try.func20, Try.ntmps20
  go_wp2
  go_loopw [3, 4] (fun o i wr => ∃ k n : Nat, k ≤ s.size ∧ i = .int .i64 k ∧ o = .string ⟨(hexL (s.data.toList.take k)).toArray⟩ ∧ wr = w.drewN n) (fun _ i _ => (s.size - intOf i).toNat)
  case atStart => exact ⟨0, 0, Nat.zero_le _, rfl, rfl, rfl⟩
  case round =>
    obtain ⟨k, n, hk, rfl, rfl, hw0⟩ := hrel
    have HW := hide hw0
    clear hw0
    by_cases hlt : k < s.size
    · have hx := s[k].toNat_lt
      have hz : (⟨(hexL (s.data.toList.take k)).toArray⟩ : ByteArray).size ≤ 70368744177664 := by
        show (hexL (s.data.toList.take k)).toArray.size ≤ _
        rw [List.size_toArray, hexL_len]
        simp
        omega
      have hcat := hide (cat2 s k hlt)
      generalize (⟨(hexL (s.data.toList.take k)).toArray⟩ : ByteArray) = T at hz hcat ⊢
      have hk0 : (0 : Int) ≤ k := by omega
      have hk1 : (k : Int) < s.size := by omega
      have o1 : ∀ b : UInt8, (⟨#[b]⟩ : ByteArray).size = 1 := fun b => rfl
      have H1 := hide fun W => rdigit_any ((s[k].toNat : Int) / 16) (by omega) (by omega) W
      have H2 := hide fun W => rdigit_any ((s[k].toNat : Int) % 16) (by omega) (by omega) W
      have hq : IntKind.u8.wrap ((s[k].toNat : Int) / 16) = (s[k].toNat : Int) / 16 := by show ((s[k].toNat : Int) / 16) % 256 = _; omega
      have hr : IntKind.u8.wrap ((s[k].toNat : Int) % 16) = (s[k].toNat : Int) % 16 := by show ((s[k].toNat : Int) % 16) % 256 = _; omega
      go_wp2
      go_quiet ((first | (go_at_call 54; exact Calls.quiet_of_same (H1.out _)) | (go_at_call 54; exact Calls.quiet_of_same (H2.out _))))
      go_wp2
      refine ⟨⟨k + 1, n + nq, by omega, by go_num, by rw [← hcat.out]; rfl, by rw [HW.out, World.drewN_drewN]⟩, by simp [intOf]; omega⟩
    · have hk' : s.data.toList.take k = s.data.toList := List.take_of_length_le (by simp; omega)
      go_wp2
      go_ret
      exact ⟨by rw [hk']; rfl, n, HW.out⟩
end
end Go.Proofs.Ytnmffnefkokkeaa
