/- The contracts of wide.mulAdd and wide.Mul. -/
import Derived.Test.YtmfpnlnhebjelaaWk
namespace Go.Proofs.Ytmfpnlnhebjelaa
open Go.RowKit
open Go.Deep
/-- A word out of a number that is a value. -/
theorem run_indexW (m i : Nat) (h : i < 4) (w : World) : (Instr.index 24 (.agg (wn m)) (.int .i64 (i : Int))).run Try.prog w = .ok (.int .u64 ((wd m i : Nat) : Int)) w := by
  have hp : (Go.part 22 (wn m) (i * 1)).run Try.prog w = .ok (.int .u64 ((wd m i : Nat) : Int)) w := by
    simp [Go.part, isAgg, run_underlying Try.underlying22, wn, nc_at 4 (wd m) i h]
  rw [Nat.mul_one] at hp
  simp [Instr.index, asIntOf, run_underlying Try.underlying24, h, hp]
theorem wpList_indexW {w : World} {ops : Array Oper} {rest : List Oper} {o : Oper} {a : Act} {Q : Exit → Act → World → Prop} (hgd : o.guard = none) (x y : Operand) (ho : o.op = .index 24 x y) (m i : Nat) (hx : a.eval x = .agg (wn m)) (hy : a.eval y = .int .i64 (i : Int)) (hi : i < 4)
    (h : wpList Try.prog ops Q rest (a.put o.dst (.int .u64 ((wd m i : Nat) : Int))) w) : wpList Try.prog ops Q (o :: rest) a w := by
  refine wpList_plain hgd fun K hK => ?_
  unfold Oper.wp execOp
  simp only [ho, hx, hy, run_indexW m i hi w, Sem.run_bind, Result.andThen_ok, Sem.run_pure]
  exact hK _ _ h
theorem mulAdd_arith (x y f s : Nat) (hx : x < 18446744073709551616) (hy : y < 18446744073709551616) (hf : f < 18446744073709551616) (hs : s < 18446744073709551616) : x * y / 18446744073709551616 + (x * y % 18446744073709551616 + f) / 18446744073709551616 + ((x * y % 18446744073709551616 + f) % 18446744073709551616 + s) / 18446744073709551616 = (x * y + f + s) / 18446744073709551616 ∧ ((x * y % 18446744073709551616 + f) % 18446744073709551616 + s) % 18446744073709551616 = (x * y + f + s) % 18446744073709551616 ∧ (x * y + f + s) / 18446744073709551616 < 18446744073709551616 := by
  have h := Nat.mul_le_mul (show x ≤ 18446744073709551615 by omega) (show y ≤ 18446744073709551615 by omega)
  generalize x * y = P at *
  refine ⟨by omega, by omega, by omega⟩
section
set_option maxRecDepth 10000
set_option maxHeartbeats 2000000
theorem mulAdd_any (x y f s : Nat) (hx : x < 18446744073709551616) (hy : y < 18446744073709551616) (hf : f < 18446744073709551616) (hs : s < 18446744073709551616) (w : World) : Calls Try.prog 70 #[.int .u64 (x : Int), .int .u64 (y : Int), .int .u64 (f : Int), .int .u64 (s : Int)] w fun e w' => e = .returned (.tuple #[.int .u64 (((x * y + f + s) / 18446744073709551616 : Nat) : Int), .int .u64 (((x * y + f + s) % 18446744073709551616 : Nat) : Int)]) ∧ w' = w := by
  have HM := hide fun W => mul64_any x y hx hy W
  obtain ⟨e1, e2, e3⟩ := mulAdd_arith x y f s hx hy hf hs
  have A1 := fun W => add64_run (x * y % 18446744073709551616) f 0 (by omega) W
  have A2 := fun W => add64_run ((x * y % 18446744073709551616 + f) % 18446744073709551616) s 0 (by omega) W
  rw [Nat.add_zero] at A1 A2
  rw [e2] at A2
  have hw1 : IntKind.u64.wrap (((x * y / 18446744073709551616 : Nat) : Int) + (((x * y % 18446744073709551616 + f) / 18446744073709551616 : Nat) : Int)) = ((x * y / 18446744073709551616 + (x * y % 18446744073709551616 + f) / 18446744073709551616 : Nat) : Int) := by
    rw [← Int.natCast_add]
    generalize x * y = P at *
    exact wrapu _ (by omega) (by omega)
  have hw2 : IntKind.u64.wrap (((x * y / 18446744073709551616 + (x * y % 18446744073709551616 + f) / 18446744073709551616 : Nat) : Int) + ((((x * y % 18446744073709551616 + f) % 18446744073709551616 + s) / 18446744073709551616 : Nat) : Int)) = (((x * y + f + s) / 18446744073709551616 : Nat) : Int) := by
    rw [← Int.natCast_add, e1]
    generalize (x * y + f + s) / 18446744073709551616 = P at *
    exact wrapu _ (by omega) (by omega)
  clear e1 e2 e3
  obtain ⟨h0, h0e⟩ : ∃ k, k = x * y / 18446744073709551616 := ⟨_, rfl⟩
  obtain ⟨c2, c2e⟩ : ∃ k, k = ((x * y % 18446744073709551616 + f) % 18446744073709551616 + s) / 18446744073709551616 := ⟨_, rfl⟩
  obtain ⟨l1, l1e⟩ : ∃ k, k = (x * y % 18446744073709551616 + f) % 18446744073709551616 := ⟨_, rfl⟩
  obtain ⟨c1, c1e⟩ : ∃ k, k = (x * y % 18446744073709551616 + f) / 18446744073709551616 := ⟨_, rfl⟩
  obtain ⟨l0, l0e⟩ : ∃ k, k = x * y % 18446744073709551616 := ⟨_, rfl⟩
  obtain ⟨h2, h2e⟩ : ∃ k, k = (x * y + f + s) / 18446744073709551616 := ⟨_, rfl⟩
  obtain ⟨l2, l2e⟩ : ∃ k, k = (x * y + f + s) % 18446744073709551616 := ⟨_, rfl⟩
  rw [← h0e, ← l0e] at HM
  rw [← c1e, ← l1e, ← l0e] at A1
  rw [← l2e, ← c2e, ← l1e] at A2
  rw [← h0e, ← c1e] at hw1
  rw [← h0e, ← c1e, ← c2e, ← h2e] at hw2
  rw [← h2e, ← l2e]
  obtain ⟨h1, h1e⟩ : ∃ k, k = h0 + c1 := ⟨_, rfl⟩
  rw [← h1e] at hw1 hw2
  have B1 : ∀ W, (callFunc 51 #[.int .u64 (l0 : Int), .int .u64 (f : Int), .int .u64 0]).run Try.prog W = .ok (.value (.tuple #[.int .u64 (l1 : Int), .int .u64 (c1 : Int)])) W := A1
  have B2 : ∀ W, (callFunc 51 #[.int .u64 (l1 : Int), .int .u64 (s : Int), .int .u64 0]).run Try.prog W = .ok (.value (.tuple #[.int .u64 (l2 : Int), .int .u64 (c2 : Int)])) W := A2
  clear A1 A2 h0e c2e l1e c1e l0e h2e l2e h1e hx hy hf hs
  go_enter Try.func70, Try.ntmps70
  go_wp2_with (first | (go_at_call 72; refine (HM.out _).mono ?_; rintro e w3 ⟨rfl, hw3⟩; subst w3))
  go_ret2
  exact ⟨rfl, rfl⟩
end
end Go.Proofs.Ytmfpnlnhebjelaa
