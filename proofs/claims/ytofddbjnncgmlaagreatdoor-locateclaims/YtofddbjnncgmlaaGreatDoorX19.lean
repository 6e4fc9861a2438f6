/- The contract of wide.Div, in full. The contracts of wide.mulAdd and wide.Mul. The contracts of wide.Not and wide.Root. The contract of wide.Mul. -/
import Derived.Test.YtofddbjnncgmlaaGreatDoorX18
import Derived.Test.YtofddbjnncgmlaaGreatDoorX15
import Derived.Test.YtofddbjnncgmlaaGreatDoorX17
namespace Go.Proofs.YtofddbjnncgmlaaGreatDoor
open Go.RowKit
open Go.Deep
attribute [local go_sem ↓] ldW_eq svW_eq
section
set_option maxRecDepth 10000
set_option maxHeartbeats 2000000
theorem div_zero (m : Nat) (w : World) : Calls Tryz.prog 241 #[.agg (wn m), .agg (wn 0)] w fun e w' => e = .returned (.tuple #[.agg (wn 0), .agg (wn 0), .int .i64 40]) ∧ Below w.heap.size w w' := by
  have J0 := hide (Ad.start w 51 m 0)
  have HZ := hide fun W => zero_any 0 M_pos W
  rw [show decide (0 = 0) = true by decide] at HZ
  go_enter Tryz.func241, Tryz.ntmps241
  go_upto_region 1 with (first | refine wpList_boxA rfl _ rfl (wn m) rfl ?_ | refine wpList_boxA rfl _ rfl (wn 0) rfl ?_ | refine wpList_allocA AW rfl rfl ?_)
  generalize (((w.alloc (.cells (wn m) 51)).alloc (.cells (wn 0) 51)).alloc (.cells (wn 0) 51)).alloc (.cells (wn 0) 51) = W0 at *
  have b0 := hide J0.out.b.heap
  go_wp2_with (first | refine wpList_loadA AW rfl _ rfl _ rfl (wn 0) (wn_size _) 51 b0.out ?_ | (go_at_call 169; refine (HZ.out _).mono ?_; rintro e w1 ⟨rfl, be⟩; have J1 := hide (J0.out.next be); have r1 := hide J1.out.r; clear be) | refine wpList_buildA AW rfl rfl ?_ | refine wpList_storeA AW rfl _ _ rfl _ (wn 0) (wn_size _) (wn_one _) rfl rfl (wn 0) (wn_size 0) 51 r1.out ?_ | refine wpList_storeA AW rfl _ _ rfl _ (wn 0) (wn_size _) (wn_one _) rfl rfl (wn 0) (wn_size 0) 51 ((setRow_other _ _ _ _ (by omega)).trans J1.out.o.heap) ?_)
  exact bodyPost_ret (v := .tuple #[.agg (wn 0), .agg (wn 0), .int .i64 40]) (resAA3 AW Tryz.results241 _ _ (w.heap.size + 1 + 1) (w.heap.size + 1 + 1 + 1) 51 (wn 0) (wn 0) (wn_size _) (wn_size _) rfl (two_rows J1.out _ _).1 rfl (two_rows J1.out _ _).2.1 _ (by rfl)) rfl ⟨rfl, (two_rows J1.out _ _).2.2⟩
theorem div_long (m n : Nat) (hm : m < M) (hn : n < M) (hl : ¬ n < 18446744073709551616) (w : World) : Calls Tryz.prog 241 #[.agg (wn m), .agg (wn n)] w fun e w' => e = .returned (.tuple #[.agg (wn (m / n)), .agg (wn (m % n)), .int .i64 0]) ∧ Below w.heap.size w w' := by
  have J0 := hide (Ad.start w 51 m n)
  have HZ := hide fun W => zero_any n hn W
  rw [show decide (n = 0) = false by simp; omega] at HZ
  have HL := hide fun W => low_no n hn hl W
  have HD := hide fun W => divLong_any m n hm (by omega) hn W
  clear hm hn hl
  generalize m / n = q at *
  generalize m % n = r at *
  go_enter Tryz.func241, Tryz.ntmps241
  go_upto_region 1 with (first | refine wpList_boxA rfl _ rfl (wn m) rfl ?_ | refine wpList_boxA rfl _ rfl (wn n) rfl ?_ | refine wpList_allocA AW rfl rfl ?_)
  generalize (((w.alloc (.cells (wn m) 51)).alloc (.cells (wn n) 51)).alloc (.cells (wn 0) 51)).alloc (.cells (wn 0) 51) = W0 at *
  have b0 := hide J0.out.b.heap
  go_upto_region 7 with (first | refine wpList_loadA AW rfl _ rfl _ rfl (wn n) (wn_size _) 51 b0.out ?_ | refine wpList_loadA AW rfl _ rfl _ rfl (wn n) (wn_size _) 51 b1.out ?_ | (go_at_call 169; refine (HZ.out _).mono ?_; rintro e w1 ⟨rfl, be⟩; have J1 := hide (J0.out.next be); have b1 := hide J1.out.b.heap; clear be) | (go_at_call 295; refine (HL.out _).mono ?_; rintro e w2 ⟨rfl, be⟩; have J2 := hide (J1.out.next be); have a2 := hide J2.out.a.heap; have b2 := hide J2.out.b.heap; clear be))
  clear J0 b0 J1 b1 HZ HL
  go_upto_region 8 with (first | refine wpList_loadA AW rfl _ rfl _ rfl (wn m) (wn_size _) 51 a2.out ?_ | refine wpList_loadA AW rfl _ rfl _ rfl (wn n) (wn_size _) 51 b2.out ?_ | (go_at_call 297; refine (HD.out _).mono ?_; rintro e w3 ⟨rfl, be⟩; have J3 := hide (J2.out.next be); clear be) | refine wpList_allocA AW rfl rfl ?_ | refine wpList_storeA AW rfl _ _ rfl _ (wn q) (wn_size _) (wn_one _) rfl rfl (wn 0) (wn_size _) 51 (blk2x w3 (.cells (wn 0) 51) (.cells (wn 0) 51)).1 ?_ | refine wpList_storeA AW rfl _ _ rfl _ (wn r) (wn_size _) (wn_one _) rfl rfl (wn 0) (wn_size _) 51 (blk2s w3 (.cells (wn 0) 51) (.cells (wn 0) 51) (wn q)) ?_)
  obtain ⟨r3, r4, rb⟩ := blk2w w3 51 (wn 0) (wn q) (wn r)
  have H3 := hide r3
  have H4 := hide r4
  have J4 := hide (J3.out.next rb)
  have hlt := J3.out.ne
  clear r3 r4 rb J2 a2 b2 HD J3
  simp only [Act.put, List.setIfInBounds_toArray, List.set_cons_succ, List.set_cons_zero, hsz]
  generalize (((w3.alloc (.cells (wn 0) 51)).alloc (.cells (wn 0) 51)).setRow w3.heap.size (wn q)).setRow (w3.heap.size + 1) (wn r) = W4 at *
  have l1 := ldW_row (W := W4.drew) H3.out
  have l2 := ldW_row (W := W4.drew) H4.out
  have s1 := svW_row (w := W4.drew) J4.out.r q
  have l3 := ldW_row (W := W4.drew.setRow (w.heap.size + 1 + 1) (wn q)) ((setRow_other _ _ _ _ (by omega)).trans H4.out)
  have s2 := svW_row (w := W4.drew.setRow (w.heap.size + 1 + 1) (wn q)) ((setRow_other _ _ _ _ (by omega)).trans J4.out.o.heap) r
  clear hlt
  go_region
  go_wp2
  exact bodyPost_ret (v := .tuple #[.agg (wn q), .agg (wn r), .int .i64 0]) (resAA3 AW Tryz.results241 _ _ (w.heap.size + 1 + 1) (w.heap.size + 1 + 1 + 1) 51 (wn q) (wn r) (wn_size _) (wn_size _) rfl (two_rows J4.out.drew _ _).1 rfl (two_rows J4.out.drew _ _).2.1 _ (by rfl)) rfl ⟨rfl, (two_rows J4.out.drew _ _).2.2⟩
end
theorem div_any (m n : Nat) (hm : m < M) (h0 : 0 < n) (hn : n < M) (w : World) : Calls Tryz.prog 241 #[.agg (wn m), .agg (wn n)] w fun e w' => e = .returned (.tuple #[.agg (wn (m / n)), .agg (wn (m % n)), .int .i64 0]) ∧ Below w.heap.size w w' := by
  by_cases h : n < 18446744073709551616
  · exact div_word m n hm h0 h w
  · exact div_long m n hm hn h w
end Go.Proofs.YtofddbjnncgmlaaGreatDoor
namespace Go.Proofs.YtofddbjnncgmlaaGreatDoor
open Go.RowKit
open Go.Deep
/-- A word out of a number that is a value. -/
theorem run_indexW (m i : Nat) (h : i < 4) (w : World) : (Instr.index 51 (.agg (wn m)) (.int .i64 (i : Int))).run Tryz.prog w = .ok (.int .u64 ((wd m i : Nat) : Int)) w := by
  have hp : (Go.part 49 (wn m) (i * 1)).run Tryz.prog w = .ok (.int .u64 ((wd m i : Nat) : Int)) w := by
    simp [Go.part, isAgg, run_underlying Tryz.underlying49, wn, nc_at 4 (wd m) i h]
  rw [Nat.mul_one] at hp
  simp [Instr.index, asIntOf, run_underlying Tryz.underlying51, h, hp]
theorem wpList_indexW {w : World} {ops : Array Oper} {rest : List Oper} {o : Oper} {a : Act} {Q : Exit → Act → World → Prop} (hgd : o.guard = none) (x y : Operand) (ho : o.op = .index 51 x y) (m i : Nat) (hx : a.eval x = .agg (wn m)) (hy : a.eval y = .int .i64 (i : Int)) (hi : i < 4)
    (h : wpList Tryz.prog ops Q rest (a.put o.dst (.int .u64 ((wd m i : Nat) : Int))) w) : wpList Tryz.prog ops Q (o :: rest) a w := by
  refine wpList_plain hgd fun K hK => ?_
  unfold Oper.wp execOp
  simp only [ho, hx, hy, run_indexW m i hi w, Sem.run_bind, Result.andThen_ok, Sem.run_pure]
  exact hK _ _ h
theorem mulAdd_arith (x y f s : Nat) (hx : x < 18446744073709551616) (hy : y < 18446744073709551616) (hf : f < 18446744073709551616) (hs : s < 18446744073709551616) : x * y / 18446744073709551616 + (x * y % 18446744073709551616 + f) / 18446744073709551616 + ((x * y % 18446744073709551616 + f) % 18446744073709551616 + s) / 18446744073709551616 = (x * y + f + s) / 18446744073709551616 ∧ ((x * y % 18446744073709551616 + f) % 18446744073709551616 + s) % 18446744073709551616 = (x * y + f + s) % 18446744073709551616 ∧ (x * y + f + s) / 18446744073709551616 < 18446744073709551616 := by
  have h := Nat.mul_le_mul (show x ≤ 18446744073709551615 by omega) (show y ≤ 18446744073709551615 by omega)
  generalize x * y = P at *
  refine ⟨by omega, by omega, by omega⟩
section
set_option maxRecDepth 10000
set_option maxHeartbeats 2000000
theorem mulAdd_any (x y f s : Nat) (hx : x < 18446744073709551616) (hy : y < 18446744073709551616) (hf : f < 18446744073709551616) (hs : s < 18446744073709551616) (w : World) : Calls Tryz.prog 369 #[.int .u64 (x : Int), .int .u64 (y : Int), .int .u64 (f : Int), .int .u64 (s : Int)] w fun e w' => e = .returned (.tuple #[.int .u64 (((x * y + f + s) / 18446744073709551616 : Nat) : Int), .int .u64 (((x * y + f + s) % 18446744073709551616 : Nat) : Int)]) ∧ w' = w := by
  have HM := hide fun W => mul64_any x y hx hy W
  obtain ⟨e1, e2, e3⟩ := mulAdd_arith x y f s hx hy hf hs
  have A1 := fun W => add64_run (x * y % 18446744073709551616) f 0 (by omega) W
  have A2 := fun W => add64_run ((x * y % 18446744073709551616 + f) % 18446744073709551616) s 0 (by omega) W
  rw [Nat.add_zero] at A1 A2
  rw [e2] at A2
  have hw1 : IntKind.u64.wrap (((x * y / 18446744073709551616 : Nat) : Int) + (((x * y % 18446744073709551616 + f) / 18446744073709551616 : Nat) : Int)) = ((x * y / 18446744073709551616 + (x * y % 18446744073709551616 + f) / 18446744073709551616 : Nat) : Int) := by
    rw [← Int.natCast_add]
    generalize x * y = P at *
    exact wrapu _ (by omega) (by omega)
  have hw2 : IntKind.u64.wrap (((x * y / 18446744073709551616 + (x * y % 18446744073709551616 + f) / 18446744073709551616 : Nat) : Int) + ((((x * y % 18446744073709551616 + f) % 18446744073709551616 + s) / 18446744073709551616 : Nat) : Int)) = (((x * y + f + s) / 18446744073709551616 : Nat) : Int) := by
    rw [← Int.natCast_add, e1]
    generalize (x * y + f + s) / 18446744073709551616 = P at *
    exact wrapu _ (by omega) (by omega)
  clear e1 e2 e3
  obtain ⟨h0, h0e⟩ : ∃ k, k = x * y / 18446744073709551616 := ⟨_, rfl⟩
  obtain ⟨c2, c2e⟩ : ∃ k, k = ((x * y % 18446744073709551616 + f) % 18446744073709551616 + s) / 18446744073709551616 := ⟨_, rfl⟩
  obtain ⟨l1, l1e⟩ : ∃ k, k = (x * y % 18446744073709551616 + f) % 18446744073709551616 := ⟨_, rfl⟩
  obtain ⟨c1, c1e⟩ : ∃ k, k = (x * y % 18446744073709551616 + f) / 18446744073709551616 := ⟨_, rfl⟩
  obtain ⟨l0, l0e⟩ : ∃ k, k = x * y % 18446744073709551616 := ⟨_, rfl⟩
  obtain ⟨h2, h2e⟩ : ∃ k, k = (x * y + f + s) / 18446744073709551616 := ⟨_, rfl⟩
  obtain ⟨l2, l2e⟩ : ∃ k, k = (x * y + f + s) % 18446744073709551616 := ⟨_, rfl⟩
  rw [← h0e, ← l0e] at HM
  rw [← c1e, ← l1e, ← l0e] at A1
  rw [← l2e, ← c2e, ← l1e] at A2
  rw [← h0e, ← c1e] at hw1
  rw [← h0e, ← c1e, ← c2e, ← h2e] at hw2
  rw [← h2e, ← l2e]
  obtain ⟨h1, h1e⟩ : ∃ k, k = h0 + c1 := ⟨_, rfl⟩
  rw [← h1e] at hw1 hw2
  have B1 : ∀ W, (callFunc 261 #[.int .u64 (l0 : Int), .int .u64 (f : Int), .int .u64 0]).run Tryz.prog W = .ok (.value (.tuple #[.int .u64 (l1 : Int), .int .u64 (c1 : Int)])) W := A1
  have B2 : ∀ W, (callFunc 261 #[.int .u64 (l1 : Int), .int .u64 (s : Int), .int .u64 0]).run Tryz.prog W = .ok (.value (.tuple #[.int .u64 (l2 : Int), .int .u64 (c2 : Int)])) W := A2
  clear A1 A2 h0e c2e l1e c1e l0e h2e l2e h1e hx hy hf hs
  go_enter Tryz.func369, Tryz.ntmps369
  go_wp2_with (first | (go_at_call 375; refine (HM.out _).mono ?_; rintro e w3 ⟨rfl, hw3⟩; subst w3))
  go_ret2
  exact ⟨rfl, rfl⟩
end
end Go.Proofs.YtofddbjnncgmlaaGreatDoor
namespace Go.Proofs.YtofddbjnncgmlaaGreatDoor
open Go.RowKit
open Go.Deep
/-- The root of a number, cut down. -/
def rt : Nat → Nat
  | 0 => 0
  | m + 1 => if (rt m + 1) * (rt m + 1) ≤ m + 1 then rt m + 1 else rt m
theorem rt_both (m : Nat) : rt m * rt m ≤ m ∧ m < (rt m + 1) * (rt m + 1) := by
  induction m with
  | zero => exact ⟨by simp [rt], by simp [rt]⟩
  | succ m ih =>
    obtain ⟨h1, h2⟩ := ih
    rw [rt]
    split
    · rename_i h
      refine ⟨h, ?_⟩
      have : (rt m + 1) * (rt m + 1) < (rt m + 1 + 1) * (rt m + 1 + 1) := Nat.mul_lt_mul_of_lt_of_le (by omega) (by omega) (by omega)
      omega
    · rename_i h
      exact ⟨by omega, by omega⟩
theorem rt_le (m : Nat) : rt m * rt m ≤ m := (rt_both m).1
theorem rt_lt (m : Nat) : m < (rt m + 1) * (rt m + 1) := (rt_both m).2
theorem sq_le (m y : Nat) : y * y ≤ m ↔ y ≤ rt m := by
  constructor
  · intro h
    rcases Nat.lt_or_ge (rt m) y with h' | h'
    · have := Nat.mul_le_mul (show rt m + 1 ≤ y from h') (show rt m + 1 ≤ y from h')
      have := rt_lt m
      omega
    · exact h'
  · intro h
    exact Nat.le_trans (Nat.mul_le_mul h h) (rt_le m)
theorem rt_128 (m : Nat) (hm : m < M) : rt m < 2 ^ 128 := by
  rcases Nat.lt_or_ge (rt m) (2 ^ 128) with h | h
  · exact h
  · have h1 := Nat.mul_le_mul h h
    have h2 := rt_le m
    have : M = 2 ^ 128 * 2 ^ 128 := by decide
    omega
/-- The root's bits from n on. -/
def rn (m n : Nat) : Nat := rt m / 2 ^ n * 2 ^ n
theorem rn_bit (m n : Nat) : (rn m (n + 1)).testBit n = false := by
  rw [Nat.testBit, rn, Nat.pow_succ, ← Nat.div_div_eq_div_mul, Nat.mul_comm (2 ^ n) 2, ← Nat.mul_assoc, Nat.shiftRight_eq_div_pow, Nat.mul_div_cancel _ (Nat.two_pow_pos n)]
  simp [Nat.and_comm 1]
theorem rn_step (m n : Nat) : rn m n = if (rn m (n + 1) + 2 ^ n) * (rn m (n + 1) + 2 ^ n) ≤ m then rn m (n + 1) + 2 ^ n else rn m (n + 1) := by
  simp only [sq_le]
  unfold rn
  rw [Nat.pow_succ, ← Nat.div_div_eq_div_mul]
  have h := Nat.div_add_mod (rt m) (2 ^ n)
  have hp := Nat.two_pow_pos n
  have hl := Nat.mod_lt (rt m) hp
  generalize rt m = s at *
  generalize 2 ^ n = p at *
  generalize s % p = r at *
  generalize s / p = q at *
  have h2 := Nat.div_add_mod q 2
  have e1 : q / 2 * (p * 2) = 2 * (q / 2) * p := by rw [← Nat.mul_assoc, Nat.mul_comm (q / 2 * p), ← Nat.mul_assoc]
  rw [e1]
  rcases (show q % 2 = 0 ∨ q % 2 = 1 by omega) with e | e
  · rw [e, Nat.add_zero] at h2
    rw [h2, if_neg]
    rw [Nat.mul_comm q p]
    omega
  · rw [e] at h2
    have e3 : q * p = 2 * (q / 2) * p + p := by conv => lhs; rw [← h2, Nat.add_mul, Nat.one_mul]
    rw [Nat.mul_comm p q] at h
    rw [if_pos (by omega)]
    exact e3
theorem rn_128 (m : Nat) (hm : m < M) : rn m 128 = 0 := by
  rw [rn, Nat.div_eq_of_lt (rt_128 m hm), Nat.zero_mul]
theorem rn_zero (m : Nat) : rn m 0 = rt m := by simp [rn]
theorem rn_try (m n : Nat) (hm : m < M) (hn : n < 128) : rn m (n + 1) + 2 ^ n < 2 ^ 128 := by
  have h1 := rt_128 m hm
  have h2 : rn m (n + 1) ≤ rt m := Nat.div_mul_le_self _ _
  have h3 : rn m (n + 1) = rt m / 2 ^ (n + 1) * 2 ^ (n + 1) := rfl
  have h4 : (2 : Nat) ^ 128 = 2 ^ (127 - n) * 2 ^ (n + 1) := by rw [← Nat.pow_add]; congr 1; omega
  rw [h4] at h1 ⊢
  have h5 : rt m / 2 ^ (n + 1) < 2 ^ (127 - n) := by rw [Nat.div_lt_iff_lt_mul (Nat.two_pow_pos _)]; exact h1
  have h6 : (rt m / 2 ^ (n + 1) + 1) * 2 ^ (n + 1) ≤ 2 ^ (127 - n) * 2 ^ (n + 1) := Nat.mul_le_mul_right _ h5
  rw [Nat.add_mul, Nat.one_mul, ← h3] at h6
  have h7 : (2 : Nat) ^ n < 2 ^ (n + 1) := Nat.pow_lt_pow_right (by decide) (by omega)
  omega
theorem sq_M (y : Nat) (h : y < 2 ^ 128) : y < M ∧ y * y < M ∧ y * y / M = 0 := by
  have e : M = 2 ^ 128 * 2 ^ 128 := by decide
  have h1 : y * y < M := by rw [e]; exact Nat.mul_lt_mul_of_lt_of_le h (by omega) (by decide)
  have h2 : (2 : Nat) ^ 128 < M := by decide
  exact ⟨by omega, h1, Nat.div_eq_of_lt h1⟩
/-- Three rows: a number, an answer's place, a number that grows. -/
structure Tri (w W : World) (t : TypeId) (m r : Nat) : Prop where
  a : W.heap[w.heap.size]? = some (.cells (wn m) t (0, 0))
  b : W.heap[w.heap.size + 1]? = some (.cells (wn 0) t (0, 0))
  c : W.heap[w.heap.size + 1 + 1]? = some (.cells (wn r) t (0, 0))
  bel : Below w.heap.size w W
section
variable {w W W' : World} {t : TypeId} {m r : Nat}
theorem Tri.start (w : World) (t : TypeId) (m r : Nat) : Tri w (((w.alloc (.cells (wn m) t)).alloc (.cells (wn 0) t)).alloc (.cells (wn r) t)) t m r := by
  obtain ⟨e1, e2, e3⟩ := blk3 w (.cells (wn m) t) (.cells (wn 0) t) (.cells (wn r) t)
  exact ⟨e1, e2, e3, below3 w _ _ _⟩
theorem Tri.next (j : Tri w W t m r) (h : Below W.heap.size W W') : Tri w W' t m r := ⟨(h.block _ (lt_heap j.a)).trans j.a, (h.block _ (lt_heap j.b)).trans j.b, (h.block _ (lt_heap j.c)).trans j.c, below_next j.bel h⟩
theorem Tri.put (j : Tri w W t m r) (s : Nat) : Tri w (W.setRow (w.heap.size + 1 + 1) (wn s)) t m s :=
  ⟨(setRow_other _ _ _ _ (by omega)).trans j.a, (setRow_other _ _ _ _ (by omega)).trans j.b, setRow_heap _ _ _ _ _ _ j.c, below_setRow j.bel (by omega) _⟩
theorem Tri.lt (j : Tri w W t m r) : w.heap.size + 1 + 1 < W.heap.size := lt_heap j.c
end
theorem xor_ones (x : Nat) (h : x < 18446744073709551616) : 18446744073709551615 ^^^ x = 18446744073709551615 - x := by
  have e : 18446744073709551615 ^^^ x = (BitVec.allOnes 64 ^^^ BitVec.ofNat 64 x).toNat := by
    rw [BitVec.toNat_xor, BitVec.toNat_allOnes, BitVec.toNat_ofNat, Nat.mod_eq_of_lt h]
  rw [e, BitVec.allOnes_xor, BitVec.toNat_not, BitVec.toNat_ofNat, Nat.mod_eq_of_lt h]
theorem not_bits (x : Nat) (h : x < 18446744073709551616) : bits .xor .u64 (if IntKind.u64.signed = true then -1 else IntKind.u64.max) (x : Int) = ((18446744073709551615 - x : Nat) : Int) := by
  rw [show (if IntKind.u64.signed = true then -1 else IntKind.u64.max) = ((18446744073709551615 : Nat) : Int) from by decide, u64_xor_nat _ _ (by decide) h, xor_ones x h]
section
set_option maxRecDepth 10000
set_option maxHeartbeats 2000000
theorem not_any (m : Nat) (hm : m < M) (w : World) : Calls Tryz.prog 242 #[.agg (wn m)] w fun e w' => e = .returned (.agg (wn (M - 1 - m))) ∧ Below w.heap.size w w' := by
  have J0 := hide ((Bd.start w 51 m).congr (nwf_zero m))
  have HW : Hid (∀ i, i < 4 → wd (M - 1 - m) i = 18446744073709551615 - wd m i) := fun i hi => not_word m i hm hi
  have a0 := hide (Bd.start w 51 m).a.heap
  clear hm
  go_enter Tryz.func242, Tryz.ntmps242
  go_upto_region 1 with (first | refine wpList_boxA rfl _ rfl (wn m) rfl ?_ | refine wpList_allocA AW rfl rfl ?_)
  generalize (w.alloc (.cells (wn m) 51)).alloc (.cells (wn 0) 51) = W0 at *
  go_wp2_with (refine wpList_loadA AW rfl _ rfl _ rfl (wn m) (wn_size _) 51 a0.out ?_)
  go_loopw [3, 4, 6] (fun _ _ d wr => ∃ i : Nat, i ≤ 4 ∧ d = .int .i64 i ∧ Hid (Bd w wr 51 (nwf m i))) (fun _ _ d _ => (4 - intOf d).toNat)
  case atStart => exact ⟨0, by omega, rfl, J0⟩
  case round =>
    clear J0
    obtain ⟨i, hi, rfl, J⟩ := hrel
    by_cases hlt : i < 4
    · have hi4 : (i : Int) < 4 := by omega
      have i0 : (0 : Int) ≤ i := by omega
      have ca := J.out.a.cell hlt
      have fa := J.out.a.fz i
      have hw : bits .xor .u64 (if IntKind.u64.signed = true then -1 else IntKind.u64.max) ((wd m i : Nat) : Int) = ((wd (M - 1 - m) i : Nat) : Int) := by
        rw [not_bits _ (wd_lt m i), HW.out i hlt]
      have HR : Hid (∀ j, (if j = i then wd (M - 1 - m) i else nwf m i j) = nwf m (i + 1) j) := fun j => nwf_step m i j
      have hiw : IntKind.i64.wrap ((i : Int) + 1) = i + 1 := wrapI _ (by omega) (by omega)
      have LL := hide hlt
      clear hi
      generalize wd (M - 1 - m) i = s at *
      go_wp2_with (refine wpList_indexW rfl _ _ rfl m i rfl rfl LL.out ?_)
      have L4 := LL.out
      exact ⟨⟨i + 1, by omega, by go_num, hide ((J.out.set i s).congr (fun j _ => HR.out j))⟩, by simp [intOf]; omega⟩
    · have hke : i = 4 := by omega
      subst hke
      have H2 := (J.out.a.congr (nwf_four m)).heap
      go_wp2_with (first | refine wpList_loadA AW rfl _ rfl _ rfl (wn (M - 1 - m)) (wn_size _) 51 H2 ?_ | refine wpList_storeA AW rfl _ _ rfl _ (wn (M - 1 - m)) (wn_size _) (wn_one _) rfl rfl (wn 0) (wn_size 0) 51 J.out.r ?_)
      exact bodyPost_ret (v := .agg (wn (M - 1 - m))) (resA AW Tryz.results242 _ _ (w.heap.size + 1) 51 (wn (M - 1 - m)) (wn_size _) rfl (setRow_heap _ _ _ _ _ _ J.out.r)) rfl ⟨rfl, below_setRow J.out.bel (by omega) _⟩
end
end Go.Proofs.YtofddbjnncgmlaaGreatDoor
namespace Go.Proofs.YtofddbjnncgmlaaGreatDoor
open Go.RowKit
open Go.Deep
/-- What is known in the inner loop of a product. -/
structure In (B i k a n c : Nat) (f g : Nat → Nat) : Prop where
  eq : vs B f (i + k) + c * B ^ (i + k) = vs B g (i + k) + a * (n % B ^ k) * B ^ i
  hc : c < B
  same : ∀ j, i + k ≤ j → f j = g j
  lt : ∀ j, f j < B
theorem In.start {B i a n : Nat} {g : Nat → Nat} (h0 : 0 < B) (h : ∀ j, g j < B) : In B i 0 a n 0 g g :=
  ⟨by simp [Nat.mod_one], h0, fun _ _ => rfl, h⟩
theorem In.next {B i k a n c : Nat} {f g : Nat → Nat} (h : In B i k a n c f g) (s : Nat) (hs : s = a * dg B n k + f (i + k) + c) (hlt : s / B < B) : In B i (k + 1) a n (s / B) (fun j => if j = i + k then s % B else f j) g := by
  have h0 : 0 < B := Nat.lt_of_le_of_lt (Nat.zero_le _) h.hc
  refine ⟨?_, hlt, fun j hj => ?_, fun j => ?_⟩
  · refine mul_step B f _ g i k a n c s h.eq ?_ (fun j hj => if_neg (by omega)) (if_pos rfl)
    rw [hs, h.same (i + k) (Nat.le_refl _)]
    omega
  · rw [if_neg (by omega)]
    exact h.same j (by omega)
  · split
    · exact Nat.mod_lt _ h0
    · exact h.lt j
/-- What is known in the outer loop of a product. -/
structure Ou (B i N m n : Nat) (f : Nat → Nat) : Prop where
  eq : vs B f (i + N) = m % B ^ i * n
  lt : ∀ j, f j < B
theorem vs_zero (B : Nat) : ∀ k, vs B (fun _ => 0) k = 0
  | 0 => rfl
  | k + 1 => by rw [vs, vs_zero B k]; simp
theorem Ou.start {B N m n : Nat} (h0 : 0 < B) : Ou B 0 N m n (fun _ => 0) := ⟨by rw [vs_zero]; simp [Nat.mod_one], fun _ => h0⟩
theorem Ou.next {B i N m n c : Nat} {f g : Nat → Nat} (h : Ou B i N m n g) (hn : n < B ^ N) (hi : In B i N (dg B m i) n c f g) : Ou B (i + 1) N m n (fun j => if j = i + N then c else f j) := by
  refine ⟨mul_row B f _ g i N m n c hn h.eq hi.eq (fun j hj => if_neg (by omega)) (if_pos rfl), fun j => ?_⟩
  split
  · exact hi.hc
  · exact hi.lt j
theorem Ou.end {B N m n : Nat} {f : Nat → Nat} (h : Ou B N N m n f) (hm : m < B ^ N) (j : Nat) (hj : j < N + N) : f j = dg B (m * n) j := by
  have e := h.eq
  rw [Nat.mod_eq_of_lt hm] at e
  rw [← e]
  exact (dg_vs (fun i _ => h.lt i) j hj).symm
theorem dg_up (B n j k : Nat) : dg B n (j + k) = dg B (n / B ^ k) j := by
  unfold dg
  rw [Nat.div_div_eq_div_mul, Nat.pow_add, Nat.mul_comm]
theorem A8 : Arr 490 8 (nc 8 (fun _ => 0)) := ⟨.inl ⟨_, _, Tryz.underlying490⟩, by kernel_rfl, fun w => by kernel_rfl, fun w => by kernel_rfl, nc_size 8 _⟩
/-- Two numbers, the places of two answers, and a row. -/
structure Mu (w W : World) (t u : TypeId) (k m n : Nat) (f : Nat → Nat) : Prop where
  a : Nd W w.heap.size t 4 (wd m)
  b : Nd W (w.heap.size + 1) t 4 (wd n)
  r : W.heap[w.heap.size + 1 + 1]? = some (.cells (wn 0) t (0, 0))
  s : W.heap[w.heap.size + 1 + 1 + 1]? = some (.cells (wn 0) t (0, 0))
  o : Nd W (w.heap.size + 1 + 1 + 1 + 1) u k f
  bel : Below w.heap.size w W
theorem Mu.start (w : World) (t u : TypeId) (k m n : Nat) (f : Nat → Nat) : Mu w (((((w.alloc (.cells (wn m) t)).alloc (.cells (wn n) t)).alloc (.cells (wn 0) t)).alloc (.cells (wn 0) t)).alloc (.cells (nc k f) u)) t u k m n f := by
  obtain ⟨e1, e2, e3, e4⟩ := blk4 w (.cells (wn m) t) (.cells (wn n) t) (.cells (wn 0) t) (.cells (wn 0) t)
  have b4 := below4 w (.cells (wn m) t) (.cells (wn n) t) (.cells (wn 0) t) (.cells (wn 0) t)
  have hs : ((((w.alloc (.cells (wn m) t)).alloc (.cells (wn n) t)).alloc (.cells (wn 0) t)).alloc (.cells (wn 0) t)).heap.size = w.heap.size + 1 + 1 + 1 + 1 := by simp
  have e5 := heap_alloc_last ((((w.alloc (.cells (wn m) t)).alloc (.cells (wn n) t)).alloc (.cells (wn 0) t)).alloc (.cells (wn 0) t)) (.cells (nc k f) u)
  rw [hs] at e5
  exact ⟨Nd.of_heap ((Below.heap_alloc _ _ _ (lt_heap e1)).trans e1), Nd.of_heap ((Below.heap_alloc _ _ _ (lt_heap e2)).trans e2), (Below.heap_alloc _ _ _ (lt_heap e3)).trans e3, (Below.heap_alloc _ _ _ (lt_heap e4)).trans e4, Nd.of_heap e5, b4.alloc (by simp; omega) _⟩
theorem Mu.set {w W : World} {t u : TypeId} {k m n : Nat} {f : Nat → Nat} (j : Mu w W t u k m n f) (i x : Nat) : Mu w (W.setCell ⟨w.heap.size + 1 + 1 + 1 + 1, i, none⟩ (.int .u64 ((x : Nat) : Int))) t u k m n (fun k => if k = i then x else f k) :=
  ⟨j.a.other (by omega) _ _, j.b.other (by omega) _ _, (Below.heap_setCell _ _ _ _ (by simp)).trans j.r, (Below.heap_setCell _ _ _ _ (by simp)).trans j.s, j.o.set i x, j.bel.setCell (by simp; omega) _⟩
theorem Mu.drew {w W : World} {t u : TypeId} {k m n : Nat} {f : Nat → Nat} (j : Mu w W t u k m n f) : Mu w W.drew t u k m n f := ⟨j.a, j.b, j.r, j.s, j.o, j.bel.drew⟩
theorem Mu.two {w W : World} {t u : TypeId} {k m n : Nat} {f : Nat → Nat} (j : Mu w W t u k m n f) (c d : Array Value) : ((W.setRow (w.heap.size + 1 + 1) c).setRow (w.heap.size + 1 + 1 + 1) d).heap[w.heap.size + 1 + 1]? = some (.cells c t (0, 0)) ∧ ((W.setRow (w.heap.size + 1 + 1) c).setRow (w.heap.size + 1 + 1 + 1) d).heap[w.heap.size + 1 + 1 + 1]? = some (.cells d t (0, 0)) ∧ Below w.heap.size w ((W.setRow (w.heap.size + 1 + 1) c).setRow (w.heap.size + 1 + 1 + 1) d) := by
  refine ⟨(setRow_other _ _ _ _ (by omega)).trans (setRow_heap _ _ _ _ _ _ j.r), setRow_heap _ _ _ _ _ _ ((setRow_other _ _ _ _ (by omega)).trans j.s), below_setRow (below_setRow j.bel (by omega) _) (by omega) _⟩
def bdW (x : Array (Nat × Value)) : Sem Value := Instr.build 51 x
theorem bdW_eq (x : Array (Nat × Value)) : Instr.build 51 x = bdW x := rfl
theorem bdW_run (n : Nat) (w : World) : (bdW #[(0, .int .u64 ((wd n 0 : Nat) : Int)), (1, .int .u64 ((wd n 1 : Nat) : Int)), (2, .int .u64 ((wd n 2 : Nat) : Int)), (3, .int .u64 ((wd n 3 : Nat) : Int))]).run Tryz.prog w = .ok (.agg (wn n)) w := by
  rw [wn_four]
  generalize wd n 0 = a
  generalize wd n 1 = b
  generalize wd n 2 = c
  generalize wd n 3 = d
  kernel_rfl
attribute [local go_sem ↓] ldW_eq svW_eq bdW_eq
section
set_option maxRecDepth 10000
set_option maxHeartbeats 4000000
theorem mul_any (m n : Nat) (hm : m < M) (hn : n < M) (w : World) : Calls Tryz.prog 354 #[.agg (wn m), .agg (wn n)] w fun e w' => e = .returned (.tuple #[.agg (wn (m * n)), .agg (wn (m * n / M))]) ∧ Below w.heap.size w w' := by
  have J0 := hide (Mu.start w 51 490 8 m n (fun _ => 0))
  have O0 := hide (Ou.start (B := 18446744073709551616) (N := 4) (m := m) (n := n) (by decide))
  have HM := hide (And.intro hm hn)
  have a0 := hide J0.out.a.heap
  clear hm hn
  go_enter Tryz.func354, Tryz.ntmps354
  go_upto_region 2 with (first | refine wpList_boxA rfl _ rfl (wn m) rfl ?_ | refine wpList_boxA rfl _ rfl (wn n) rfl ?_ | refine wpList_allocA AW rfl rfl ?_ | refine wpList_allocA A8 rfl rfl ?_)
  generalize ((((w.alloc (.cells (wn m) 51)).alloc (.cells (wn n) 51)).alloc (.cells (wn 0) 51)).alloc (.cells (wn 0) 51)).alloc (.cells (nc 8 (fun _ => 0)) 490) = W0 at *
  go_wp2_with (refine wpList_loadA AW rfl _ rfl _ rfl (wn m) (wn_size _) 51 a0.out ?_)
  go_loopw [7, 8, 9, 10, 11, 13] (fun _ _ _ _ _ c wr => ∃ (i : Nat) (f : Nat → Nat), i ≤ 4 ∧ c = .int .i64 i ∧ Hid (Mu w wr 51 490 8 m n f) ∧ Hid (Ou 18446744073709551616 i 4 m n f)) (fun _ _ _ _ _ c _ => (4 - intOf c).toNat)
  case atStart => exact ⟨0, _, by omega, rfl, J0, O0⟩
  case round =>
    clear J0 O0 a0
    obtain ⟨i, g, hi, rfl, J, O⟩ := hrel
    by_cases hlt : i < 4
    · have hi4 : (i : Int) < 4 := by omega
      have hi0 : (0 : Int) ≤ i := by omega
      have b0 := hide J.out.b.heap
      go_wp2_with (first | refine wpList_indexW rfl _ _ rfl m i rfl rfl hlt ?_ | refine wpList_loadA AW rfl _ rfl _ rfl (wn n) (wn_size _) 51 b0.out ?_)
      have I0 := hide (In.start (B := 18446744073709551616) (i := i) (a := wd m i) (n := n) (by decide) O.out.lt)
      clear b0
      go_loopw [9, 10, 11, 18] (fun c _ _ d wr => ∃ (k cc : Nat) (f : Nat → Nat), k ≤ 4 ∧ c = .int .u64 (cc : Int) ∧ d = .int .i64 k ∧ Hid (Mu w wr 51 490 8 m n f) ∧ Hid (In 18446744073709551616 i k (wd m i) n cc f g)) (fun _ _ _ d _ => (4 - intOf d).toNat)
      case atStart => exact ⟨0, 0, _, by omega, rfl, rfl, J, I0⟩
      case round =>
        clear J I0
        obtain ⟨k, cc, f, hk, rfl, rfl, J, IN⟩ := hrel
        by_cases hlk : k < 4
        · have hk4 : (k : Int) < 4 := by omega
          have hk0 : (0 : Int) ≤ k := by omega
          have hik : IntKind.i64.wrap ((i : Int) + k) = ((i + k : Nat) : Int) := by rw [wrapI _ (by omega) (by omega)]; omega
          have h8 : ((i + k : Nat) : Int) < 8 := by omega
          have h80 : (0 : Int) ≤ ((i + k : Nat) : Int) := by omega
          have HA := hide fun W => mulAdd_any (wd m i) (wd n k) (f (i + k)) cc (wd_lt _ _) (wd_lt _ _) (IN.out.lt _) IN.out.hc W
          have hov := (mulAdd_arith (wd m i) (wd n k) (f (i + k)) cc (wd_lt _ _) (wd_lt _ _) (IN.out.lt _) IN.out.hc).2.2
          have I1 := hide (IN.out.next (wd m i * wd n k + f (i + k) + cc) rfl hov)
          clear hov
          have ho := J.out.o.cell (show i + k < 8 by omega)
          have hf := J.out.o.fz (i + k)
          have hkw : IntKind.i64.wrap ((k : Int) + 1) = k + 1 := wrapI _ (by omega) (by omega)
          obtain ⟨q, hq⟩ : ∃ q, q = i + k := ⟨_, rfl⟩
          rw [← hq] at hik h8 h80 HA I1 ho hf
          obtain ⟨c1, hc1⟩ : ∃ z, z = (wd m i * wd n k + f q + cc) / 18446744073709551616 := ⟨_, rfl⟩
          obtain ⟨l1, hl1⟩ : ∃ z, z = (wd m i * wd n k + f q + cc) % 18446744073709551616 := ⟨_, rfl⟩
          rw [← hc1] at I1
          rw [← hl1] at I1
          rw [← hc1, ← hl1] at HA
          clear hq hc1 hl1
          go_wp2_with (first | refine wpList_indexW rfl _ _ rfl n k rfl rfl hlk ?_ | (go_at_call 369; refine (HA.out _).mono ?_; rintro e w3 ⟨rfl, hw3⟩; subst w3))
          exact ⟨⟨k + 1, c1, _, by omega, rfl, by go_num, hide (J.out.set q l1), I1⟩, by simp [intOf]; omega⟩
        · have hke : k = 4 := by omega
          subst hke
          have O1 := hide (O.out.next (by rw [← M_eq]; exact HM.out.2) IN.out)
          have ho := J.out.o.cell (show i + 4 < 8 by omega)
          have hf := J.out.o.fz (i + 4)
          have hik : IntKind.i64.wrap ((i : Int) + 4) = ((i + 4 : Nat) : Int) := by rw [wrapI _ (by omega) (by omega)]; omega
          have h8 : ((i + 4 : Nat) : Int) < 8 := by omega
          have h80 : (0 : Int) ≤ ((i + 4 : Nat) : Int) := by omega
          have hkw : IntKind.i64.wrap ((i : Int) + 1) = i + 1 := wrapI _ (by omega) (by omega)
          obtain ⟨q, hq⟩ : ∃ q, q = i + 4 := ⟨_, rfl⟩
          rw [← hq] at hik h8 h80 ho hf O1
          clear hq
          go_wp2
          exact ⟨⟨i + 1, _, by omega, by go_num, hide (J.out.set q cc), O1⟩, by simp [intOf]; omega⟩
    · have hke : i = 4 := by omega
      subst hke
      have hE : ∀ j, j < 8 → g j = dg 18446744073709551616 (m * n) j := fun j hj => O.out.end (by rw [← M_eq]; exact HM.out.1) j hj
      have lo : ∀ j, j < 4 → wr.drew.cell? ⟨w.heap.size + 1 + 1 + 1 + 1, j, none⟩ = some (.int .u64 ((wd (m * n) j : Nat) : Int)) := fun j hj => by
        have := J.out.o.cell (i := j) (by omega)
        rw [hE j (by omega)] at this
        exact this
      have hi : ∀ j, j < 4 → wr.drew.cell? ⟨w.heap.size + 1 + 1 + 1 + 1, j + 4, none⟩ = some (.int .u64 ((wd (m * n / M) j : Nat) : Int)) := fun j hj => by
        have := J.out.o.cell (i := j + 4) (by omega)
        rw [hE (j + 4) (by omega), dg_up, ← M_eq] at this
        exact this
      have l0 := lo 0 (by omega)
      have l1 := lo 1 (by omega)
      have l2 := lo 2 (by omega)
      have l3 := lo 3 (by omega)
      have l4 := hi 0 (by omega)
      have l5 := hi 1 (by omega)
      have l6 := hi 2 (by omega)
      have l7 := hi 3 (by omega)
      rw [Nat.zero_add] at l4
      rw [show 1 + 4 = 5 from rfl] at l5
      rw [show 2 + 4 = 6 from rfl] at l6
      rw [show 3 + 4 = 7 from rfl] at l7
      have B1 := fun W => bdW_run (m * n) W
      have B2 := fun W => bdW_run (m * n / M) W
      have J1 := hide J.out.drew
      have s1 := svW_row J1.out.r (m * n)
      have s2 := svW_row (w := wr.drew.setRow (w.heap.size + 1 + 1) (wn (m * n))) ((setRow_other _ _ _ _ (by omega)).trans J1.out.s) (m * n / M)
      have up := fun j => fun (hj : j < 4) => show (wr.drew.setRow (w.heap.size + 1 + 1) (wn (m * n))).cell? ⟨w.heap.size + 1 + 1 + 1 + 1, j + 4, none⟩ = some (.int .u64 ((wd (m * n / M) j : Nat) : Int)) by
        have := (J1.out.o.row (b := w.heap.size + 1 + 1) (by omega) (wn (m * n))).cell (i := j + 4) (by omega)
        rw [hE (j + 4) (by omega), dg_up, ← M_eq] at this
        exact this
      have u4 := up 0 (by omega)
      have u5 := up 1 (by omega)
      have u6 := up 2 (by omega)
      have u7 := up 3 (by omega)
      rw [Nat.zero_add] at u4
      rw [show 1 + 4 = 5 from rfl] at u5
      rw [show 2 + 4 = 6 from rfl] at u6
      rw [show 3 + 4 = 7 from rfl] at u7
      clear lo hi hE J O up
      go_upto_region 13 with fail
      go_region
      go_wp2
      exact bodyPost_ret (v := .tuple #[.agg (wn (m * n)), .agg (wn (m * n / M))]) (resAA AW Tryz.results354 _ _ (w.heap.size + 1 + 1) (w.heap.size + 1 + 1 + 1) 51 (wn (m * n)) (wn (m * n / M)) (wn_size _) (wn_size _) rfl (J1.out.two _ _).1 rfl (J1.out.two _ _).2.1) rfl ⟨rfl, (J1.out.two _ _).2.2⟩
end
end Go.Proofs.YtofddbjnncgmlaaGreatDoor
