/- tx.checkBaseKey and tx.Check: their contracts. -/
import Derived.Test.YtkbfcfmjbgnhcaaKzd
namespace Go.Proofs.Ytkbfcfmjbgnhcaa
open Go.RowKit
open Go.Deep
set_option linter.unusedVariables false
def bkE (k : ByteArray) : Int := if k.size < 2 then 105 else if 100 < k.size then 105 else 0
def nullI (x : Ti) : Bool := decide (x.pt = nullP)
def hkE : List Ti → Int
  | x :: _ => bkE x.key
  | [] => 0
theorem hkE_at (L : List Ti) (h : 0 < L.length) : hkE L = bkE L[0].key := by
  cases L with
  | nil => exact absurd h (by decide)
  | cons x r => rfl
/-- The rules behind the sizes. -/
def Tm.chk2 (m : Tm) : Int :=
  if ¬ (m.ins.map Ti.pt).Nodup then 104
  else if m.base = true then hkE m.ins
  else if m.ins.any nullI = true then 106 else 0
/-- Why a transaction may not be, whatever stands around it. -/
def Tm.chk (m : Tm) : Int :=
  if m.toldE ≠ 0 then m.toldE
  else if m.ins.length = 0 ∨ m.outs.length = 0 then 102
  else if m.paid.2 ≠ 0 then m.paid.2
  else m.chk2
section
set_option maxRecDepth 10000
set_option maxHeartbeats 4000000
theorem baseKey_any (k : ByteArray) (w : World) : Calls Try.prog 16 #[.string k] w fun e w' => e = .returned (.int .i64 (bkE k)) ∧ Below w.heap.size w w' := by
  unfold bkE
  by_cases h1 : k.size < 2
  · rw [if_pos h1]
    have g1 : decide ((k.size : Int) < 2) = true := decide_eq_true (by omega)
    clear h1
    go_enter Try.func16, Try.ntmps16
    go_wp2
    go_ret
    exact ⟨rfl, Below.refl _ _⟩
  · rw [if_neg h1]
    have g1 : decide ((k.size : Int) < 2) = false := decide_eq_false (by omega)
    clear h1
    by_cases h2 : 100 < k.size
    · rw [if_pos h2]
      have g2 : decide ((k.size : Int) > 100) = true := decide_eq_true (by omega)
      clear h2
      go_enter Try.func16, Try.ntmps16
      go_wp2
      go_ret
      exact ⟨rfl, Below.refl _ _⟩
    · rw [if_neg h2]
      have g2 : decide ((k.size : Int) > 100) = false := decide_eq_false (by omega)
      clear h2
      go_enter Try.func16, Try.ntmps16
      go_wp2
      go_ret
      exact ⟨rfl, Below.refl _ _⟩
end
end Go.Proofs.Ytkbfcfmjbgnhcaa
