/- Digits to the base 16: the contracts of num's isDigit, digit, goodDigits and of the document's value, digit, Hex. -/
import Derived.Test.YtnmffnefkokkeaaL
import Derived.Deep.QuietTactic
import Derived.BigQuiet
namespace Go.Proofs.Ytnmffnefkokkeaa
open Go.RowKit
/-- What a digit says; 16: it is none. -/
def vd (c : Nat) : Nat := if 48 ≤ c ∧ c ≤ 57 then c - 48 else if 97 ≤ c ∧ c ≤ 102 then c - 87 else 16
def isD (b : UInt8) : Bool := vd b.toNat != 16
/-- How many digits stand at the front. -/
def good (l : List UInt8) : Nat := (l.takeWhile isD).length
def unhexL : List UInt8 → List UInt8
  | x :: y :: r => UInt8.ofNat (vd x.toNat * 16 + vd y.toNat) :: unhexL r
  | _ => []
theorem vd_lt {c : Nat} (h : vd c ≠ 16) : vd c < 16 := by unfold vd at *; split <;> (try split) <;> simp_all <;> omega
theorem good_le (l : List UInt8) : good l ≤ l.length := by unfold good; exact (List.takeWhile_sublist _).length_le
section
set_option maxRecDepth 10000
theorem isDigit_any (c : Nat) (w : World) : Calls Try.prog 73 #[.int .u8 c] w fun e w' => e = .returned (.bool (vd c != 16)) ∧ w' = w := by
  by_cases h1 : 48 ≤ c ∧ c ≤ 57
  · have e : (vd c != 16) = true := by unfold vd; rw [if_pos h1]; simp; omega
    rw [e]
    obtain ⟨a, b⟩ := h1
    have a' : (48 : Int) ≤ c := by omega
    have b' : (c : Int) ≤ 57 := by omega
    clear e
    go_enter Try.func73, Try.ntmps73
    go_wp2
    go_ret
    exact ⟨rfl, rfl⟩
  by_cases h2 : 97 ≤ c ∧ c ≤ 102
  · have e : (vd c != 16) = true := by unfold vd; rw [if_neg h1, if_pos h2]; simp; omega
    rw [e]
    obtain ⟨a, b⟩ := h2
    have a' : (97 : Int) ≤ c := by omega
    have b' : (c : Int) ≤ 102 := by omega
    have c' : (48 : Int) ≤ c := by omega
    have d' : ¬ (c : Int) ≤ 57 := by omega
    clear e h1
    go_enter Try.func73, Try.ntmps73
    go_wp2
    go_ret
    exact ⟨rfl, rfl⟩
  · have e : (vd c != 16) = false := by unfold vd; rw [if_neg h1, if_neg h2]; rfl
    rw [e]
    clear e
    by_cases ha : c < 48
    · have a' : ¬ (48 : Int) ≤ c := by omega
      have b' : ¬ (97 : Int) ≤ c := by omega
      clear h1 h2
      go_enter Try.func73, Try.ntmps73
      go_wp2
      go_ret
      exact ⟨rfl, rfl⟩
    · have a' : (48 : Int) ≤ c := by omega
      have b' : ¬ (c : Int) ≤ 57 := by omega
      by_cases hb : c < 97
      · have c' : ¬ (97 : Int) ≤ c := by omega
        clear h1 h2
        go_enter Try.func73, Try.ntmps73
        go_wp2
        go_ret
        exact ⟨rfl, rfl⟩
      · have c' : (97 : Int) ≤ c := by omega
        have d' : ¬ (c : Int) ≤ 102 := by omega
        clear h1 h2
        go_enter Try.func73, Try.ntmps73
        go_wp2
        go_ret
        exact ⟨rfl, rfl⟩
theorem digit_any (c : Nat) (hc : vd c ≠ 16) (w : World) : Calls Try.prog 74 #[.int .u8 c] w fun e w' => e = .returned (.int .u8 (vd c)) ∧ w' = w := by
  by_cases h1 : 48 ≤ c ∧ c ≤ 57
  · have e : (vd c : Int) = (c : Int) - 48 := by unfold vd; rw [if_pos h1]; omega
    rw [e]
    have a' : (48 : Int) ≤ c := by omega
    have b' : (c : Int) ≤ 57 := by omega
    clear e hc
    go_enter Try.func74, Try.ntmps74
    go_wp2
    go_ret
    exact ⟨rfl, rfl⟩
  have h2 : 97 ≤ c ∧ c ≤ 102 := by
    unfold vd at hc
    rw [if_neg h1] at hc
    by_cases h : 97 ≤ c ∧ c ≤ 102
    · exact h
    · rw [if_neg h] at hc; exact absurd rfl hc
  have e : (vd c : Int) = (c : Int) - 97 + 10 := by unfold vd; rw [if_neg h1, if_pos h2]; omega
  rw [e]
  have a' : (97 : Int) ≤ c := by omega
  have b' : (c : Int) ≤ 102 := by omega
  have d' : ¬ (c : Int) ≤ 57 := by omega
  clear e hc h1 h2
  go_enter Try.func74, Try.ntmps74
  go_wp2
  go_ret
  exact ⟨rfl, rfl⟩
theorem value_any (c : Nat) (w : World) : Calls Try.prog 52 #[.int .u8 c] w fun e w' => e = .returned (.int .u8 (vd c)) ∧ w' = w := by
  by_cases h1 : 48 ≤ c ∧ c ≤ 57
  · have e : (vd c : Int) = (c : Int) - 48 := by unfold vd; rw [if_pos h1]; omega
    rw [e]
    have a' : (48 : Int) ≤ c := by omega
    have b' : (c : Int) ≤ 57 := by omega
    clear e
    go_enter Try.func52, Try.ntmps52
    go_wp2
    go_ret
    exact ⟨rfl, rfl⟩
  by_cases h2 : 97 ≤ c ∧ c ≤ 102
  · have e : (vd c : Int) = (c : Int) - 97 + 10 := by unfold vd; rw [if_neg h1, if_pos h2]; omega
    rw [e]
    have a' : (97 : Int) ≤ c := by omega
    have b' : (c : Int) ≤ 102 := by omega
    have c' : (48 : Int) ≤ c := by omega
    have d' : ¬ (c : Int) ≤ 57 := by omega
    clear e h1 h2
    go_enter Try.func52, Try.ntmps52
    go_wp2
    go_ret
    exact ⟨rfl, rfl⟩
  · have e : (vd c : Int) = 16 := by unfold vd; rw [if_neg h1, if_neg h2]; rfl
    rw [e]
    clear e
    by_cases ha : c < 48
    · have a' : ¬ (48 : Int) ≤ c := by omega
      have b' : ¬ (97 : Int) ≤ c := by omega
      clear h1 h2
      go_enter Try.func52, Try.ntmps52
      go_wp2
      go_ret
      exact ⟨rfl, rfl⟩
    · have a' : (48 : Int) ≤ c := by omega
      have b' : ¬ (c : Int) ≤ 57 := by omega
      by_cases hb : c < 97
      · have c' : ¬ (97 : Int) ≤ c := by omega
        clear h1 h2
        go_enter Try.func52, Try.ntmps52
        go_wp2
        go_ret
        exact ⟨rfl, rfl⟩
      · have c' : (97 : Int) ≤ c := by omega
        have d' : ¬ (c : Int) ≤ 102 := by omega
        clear h1 h2
        go_enter Try.func52, Try.ntmps52
        go_wp2
        go_ret
        exact ⟨rfl, rfl⟩
end
end Go.Proofs.Ytnmffnefkokkeaa
