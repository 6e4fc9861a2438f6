/- Numbers of 40 bytes: their cells; the contracts of the document's Less and Zero. The contract of wide.Div, in full. The contracts of wide.mulAdd and wide.Mul. The contracts of wide.Not and wide.Root. The contract of wide.Mul. Targets: the mathematics of bits; the contracts of target.said and Limit. The contracts of target.Limit and target.Expand. The contracts of the document's Of, raw and Limit. -/
import Derived.Test.YtpffaaalncdjcaaGreatDoorN12
import Derived.Test.YtpffaaalncdjcaaGreatDoorN11
namespace Go.Proofs.YtpffaaalncdjcaaGreatDoor
open Go.RowKit
open Go.Deep
/-- Ints as cells. -/
def ic (k : Nat) (f : Nat → Nat) : Array Value := ((List.range k).map fun i => Value.int .i64 ((f i : Nat) : Int)).toArray
theorem ic_size (k : Nat) (f : Nat → Nat) : (ic k f).size = k := by simp [ic]
theorem ic_one (k : Nat) (f : Nat → Nat) : (ic k f).all (·.oneCell') = true := by
  rw [Array.all_eq_true_iff_forall_mem]
  intro v hv
  simp only [ic, List.mem_toArray, List.mem_map] at hv
  obtain ⟨b, _, rfl⟩ := hv
  rfl
theorem ic_at (k : Nat) (f : Nat → Nat) (i : Nat) (hi : i < k) : (ic k f)[i]? = some (.int .i64 ((f i : Nat) : Int)) := by
  simp [ic, hi]
theorem ic_congr {k : Nat} {f g : Nat → Nat} (h : ∀ i, i < k → f i = g i) : ic k f = ic k g := by
  unfold ic
  congr 1
  apply List.map_congr_left
  intro i hi
  rw [h i (by simpa using hi)]
/-- Ints at block g. -/
def Ni (W : World) (g : Nat) (t : TypeId) (k : Nat) (f : Nat → Nat) : Prop := W.rowIs g t k (fun i => .int .i64 ((f i : Nat) : Int))
section
variable {W W' : World} {g : Nat} {t : TypeId} {k : Nat} {f : Nat → Nat}
theorem Ni.heap (h : Ni W g t k f) : W.heap[g]? = some (.cells (ic k f) t (0, 0)) := of_row (ic_size k f) h (fun i hi => ic_at k f i hi)
theorem Ni.of_heap (h : W.heap[g]? = some (.cells (ic k f) t (0, 0))) : Ni W g t k f := row_of (ic_size k f) h (fun i hi => ic_at k f i hi)
theorem Ni.lt (h : Ni W g t k f) : g < W.heap.size := World.rowIs.lt h
theorem Ni.of_block (h : Ni W g t k f) (e : W'.heap[g]? = W.heap[g]?) : Ni W' g t k f := World.rowIs.of_block h e
theorem Ni.fz (h : Ni W g t k f) (i : Nat) : W.frozen? ⟨g, i, none⟩ = false := World.rowIs.frozen h i
theorem Ni.cell (h : Ni W g t k f) {i : Nat} (hi : i < k) : W.cell? ⟨g, i, none⟩ = some (.int .i64 ((f i : Nat) : Int)) := World.rowIs.cell h hi
theorem Ni.set (h : Ni W g t k f) (i x : Nat) : Ni (W.setCell ⟨g, i, none⟩ (.int .i64 ((x : Nat) : Int))) g t k (fun j => if j = i then x else f j) := by
  refine (World.rowIs.set h i _).congr (fun j hj => ?_)
  by_cases e : j = i <;> simp [e]
theorem Ni.congr (h : Ni W g t k f) {f' : Nat → Nat} (e : ∀ i, i < k → f i = f' i) : Ni W g t k f' := World.rowIs.congr h (fun i hi => by rw [e i hi])
theorem Ni.other (h : Ni W g t k f) {b : Nat} (hb : b ≠ g) (i : Nat) (v : Value) : Ni (W.setCell ⟨b, i, none⟩ v) g t k f := h.of_block (Below.heap_setCell _ _ _ _ (Ne.symm hb))
theorem Ni.row (h : Ni W g t k f) {b : Nat} (hb : b ≠ g) (c : Array Value) : Ni (W.setRow b c) g t k f := h.of_block (setRow_other W b g c (Ne.symm hb))
theorem Ni.below (h : Ni W g t k f) (b : Below W.heap.size W W') : Ni W' g t k f := h.of_block (b.block _ h.lt)
theorem Ni.drew (h : Ni W g t k f) : Ni W.drew g t k f := h
end
/-- The cells of a number of 40 bytes. -/
def bn (n : Nat) : Array Value := ic 40 (dg 256 n)
theorem bn_size (n : Nat) : (bn n).size = 40 := ic_size 40 _
theorem bn_one (n : Nat) : (bn n).all (·.oneCell') = true := ic_one 40 _
def MB : Nat := 256 ^ 40
theorem MB_pos : 0 < MB := by decide +kernel
theorem M_MB : M < MB := by decide +kernel
theorem bn_mod (n : Nat) : bn (n % MB) = bn n := ic_congr fun i hi => dg_mod 256 n 40 i hi
theorem size3 (w : World) : (sizeOf 3).run Tryz.prog w = .ok 1 w := by kernel_rfl
set_option maxRecDepth 20000 in
theorem eq_ic (t : TypeId) (k : Nat) (ht : Tryz.prog.underlying t = some (.array k 3)) (f g : Nat → Nat) (w : World) : (Op.equalIn 10000 t (.agg (ic k f)) (.agg (ic k g))).run Tryz.prog w = .ok ((List.range k).all fun i => f i == g i) w := by
  rw [List.range_eq_range', Op.equalIn]
  simp only [Sem.run_bind, run_underlying ht, Result.andThen_ok, size3, Std.Legacy.Range.forIn_eq_forIn_range', Std.Legacy.Range.size, Nat.sub_zero, Nat.add_sub_cancel, Nat.div_one]
  have hr : ∀ i ∈ List.range' 0 k 1, i < k := fun i hi => by simpa using (List.mem_range'_1.1 hi).2
  generalize List.range' 0 k 1 = r at hr ⊢
  induction r with
  | nil => simp
  | cons i r ih =>
    have hi : i < k := hr i (by simp)
    have hp : ∀ h : Nat → Nat, (Go.part 3 (ic k h) (i * 1)).run Tryz.prog w = .ok (.int .i64 ((h i : Nat) : Int)) w := fun h => by
      simp [Go.part, isAgg, run_underlying Tryz.underlying3, ic_at k h i hi]
    have he : (Op.equalIn 9999 3 (.int .i64 ((f i : Nat) : Int)) (.int .i64 ((g i : Nat) : Int))).run Tryz.prog w = .ok (f i == g i) w := by
      rw [run_equalIn_int w 9998 3 .i64 .i64 _ _ Tryz.underlying3]
      congr 1
      rw [Bool.eq_iff_iff]
      simp
      omega
    simp only [List.forIn_cons, Sem.run_bind, hp, he, Result.andThen_ok, List.all_cons]
    cases hb : (f i == g i)
    · simp
    · simp only [Bool.not_true, Bool.false_eq_true, if_false, Sem.run_pure, Result.andThen_ok, Bool.true_and]
      exact ih fun j hj => hr j (by simp [hj])
/-- Numbers held against each other, byte by byte. -/
theorem div_byte_step (B m i : Nat) : m / B ^ i = B * (m / B ^ (i + 1)) + dg B m i := by
  unfold dg
  rw [Nat.pow_succ, ← Nat.div_div_eq_div_mul]
  exact (Nat.div_add_mod _ _).symm
theorem byte_eq {B m n i : Nat} (h : m / B ^ (i + 1) = n / B ^ (i + 1)) (e : dg B m i = dg B n i) : m / B ^ i = n / B ^ i := by
  rw [div_byte_step, div_byte_step B n, h, e]
theorem byte_lt {B m n i : Nat} (h : m / B ^ (i + 1) = n / B ^ (i + 1)) (e : dg B m i < dg B n i) : m < n := by
  have h1 := div_byte_step B m i
  have h2 := div_byte_step B n i
  rw [h] at h1
  rcases Nat.lt_or_ge m n with h' | h'
  · exact h'
  · have := Nat.div_le_div_right (c := B ^ i) h'
    omega
section
set_option maxRecDepth 10000
set_option maxHeartbeats 2000000
end
end Go.Proofs.YtpffaaalncdjcaaGreatDoor
namespace Go.Proofs.YtpffaaalncdjcaaGreatDoor
open Go.RowKit
open Go.Deep
attribute [local go_sem ↓] ldW_eq svW_eq
section
set_option maxRecDepth 10000
set_option maxHeartbeats 2000000
end
end Go.Proofs.YtpffaaalncdjcaaGreatDoor
namespace Go.Proofs.YtpffaaalncdjcaaGreatDoor
open Go.RowKit
open Go.Deep
/-- A word out of a number that is a value. -/
theorem run_indexW (m i : Nat) (h : i < 4) (w : World) : (Instr.index 209 (.agg (wn m)) (.int .i64 (i : Int))).run Tryz.prog w = .ok (.int .u64 ((wd m i : Nat) : Int)) w := by
  have hp : (Go.part 88 (wn m) (i * 1)).run Tryz.prog w = .ok (.int .u64 ((wd m i : Nat) : Int)) w := by
    simp [Go.part, isAgg, run_underlying Tryz.underlying88, wn, nc_at 4 (wd m) i h]
  rw [Nat.mul_one] at hp
  simp [Instr.index, asIntOf, run_underlying Tryz.underlying209, h, hp]
theorem wpList_indexW {w : World} {ops : Array Oper} {rest : List Oper} {o : Oper} {a : Act} {Q : Exit → Act → World → Prop} (hgd : o.guard = none) (x y : Operand) (ho : o.op = .index 209 x y) (m i : Nat) (hx : a.eval x = .agg (wn m)) (hy : a.eval y = .int .i64 (i : Int)) (hi : i < 4)
    (h : wpList Tryz.prog ops Q rest (a.put o.dst (.int .u64 ((wd m i : Nat) : Int))) w) : wpList Tryz.prog ops Q (o :: rest) a w := by
  refine wpList_plain hgd fun K hK => ?_
  unfold Oper.wp execOp
  simp only [ho, hx, hy, run_indexW m i hi w, Sem.run_bind, Result.andThen_ok, Sem.run_pure]
  exact hK _ _ h
theorem mulAdd_arith (x y f s : Nat) (hx : x < 18446744073709551616) (hy : y < 18446744073709551616) (hf : f < 18446744073709551616) (hs : s < 18446744073709551616) : x * y / 18446744073709551616 + (x * y % 18446744073709551616 + f) / 18446744073709551616 + ((x * y % 18446744073709551616 + f) % 18446744073709551616 + s) / 18446744073709551616 = (x * y + f + s) / 18446744073709551616 ∧ ((x * y % 18446744073709551616 + f) % 18446744073709551616 + s) % 18446744073709551616 = (x * y + f + s) % 18446744073709551616 ∧ (x * y + f + s) / 18446744073709551616 < 18446744073709551616 := by
  have h := Nat.mul_le_mul (show x ≤ 18446744073709551615 by omega) (show y ≤ 18446744073709551615 by omega)
  generalize x * y = P at *
  refine ⟨by omega, by omega, by omega⟩
section
set_option maxRecDepth 10000
set_option maxHeartbeats 2000000
end
end Go.Proofs.YtpffaaalncdjcaaGreatDoor
namespace Go.Proofs.YtpffaaalncdjcaaGreatDoor
open Go.RowKit
open Go.Deep
/-- The root of a number, cut down. -/
def rt : Nat → Nat
  | 0 => 0
  | m + 1 => if (rt m + 1) * (rt m + 1) ≤ m + 1 then rt m + 1 else rt m
theorem rt_both (m : Nat) : rt m * rt m ≤ m ∧ m < (rt m + 1) * (rt m + 1) := by
  induction m with
  | zero => exact ⟨by simp [rt], by simp [rt]⟩
  | succ m ih =>
    obtain ⟨h1, h2⟩ := ih
    rw [rt]
    split
    · rename_i h
      refine ⟨h, ?_⟩
      have : (rt m + 1) * (rt m + 1) < (rt m + 1 + 1) * (rt m + 1 + 1) := Nat.mul_lt_mul_of_lt_of_le (by omega) (by omega) (by omega)
      omega
    · rename_i h
      exact ⟨by omega, by omega⟩
theorem rt_le (m : Nat) : rt m * rt m ≤ m := (rt_both m).1
theorem rt_lt (m : Nat) : m < (rt m + 1) * (rt m + 1) := (rt_both m).2
theorem sq_le (m y : Nat) : y * y ≤ m ↔ y ≤ rt m := by
  constructor
  · intro h
    rcases Nat.lt_or_ge (rt m) y with h' | h'
    · have := Nat.mul_le_mul (show rt m + 1 ≤ y from h') (show rt m + 1 ≤ y from h')
      have := rt_lt m
      omega
    · exact h'
  · intro h
    exact Nat.le_trans (Nat.mul_le_mul h h) (rt_le m)
theorem rt_128 (m : Nat) (hm : m < M) : rt m < 2 ^ 128 := by
  rcases Nat.lt_or_ge (rt m) (2 ^ 128) with h | h
  · exact h
  · have h1 := Nat.mul_le_mul h h
    have h2 := rt_le m
    have : M = 2 ^ 128 * 2 ^ 128 := by decide
    omega
/-- The root's bits from n on. -/
def rn (m n : Nat) : Nat := rt m / 2 ^ n * 2 ^ n
theorem rn_bit (m n : Nat) : (rn m (n + 1)).testBit n = false := by
  rw [Nat.testBit, rn, Nat.pow_succ, ← Nat.div_div_eq_div_mul, Nat.mul_comm (2 ^ n) 2, ← Nat.mul_assoc, Nat.shiftRight_eq_div_pow, Nat.mul_div_cancel _ (Nat.two_pow_pos n)]
  simp [Nat.and_comm 1]
theorem rn_step (m n : Nat) : rn m n = if (rn m (n + 1) + 2 ^ n) * (rn m (n + 1) + 2 ^ n) ≤ m then rn m (n + 1) + 2 ^ n else rn m (n + 1) := by
  simp only [sq_le]
  unfold rn
  rw [Nat.pow_succ, ← Nat.div_div_eq_div_mul]
  have h := Nat.div_add_mod (rt m) (2 ^ n)
  have hp := Nat.two_pow_pos n
  have hl := Nat.mod_lt (rt m) hp
  generalize rt m = s at *
  generalize 2 ^ n = p at *
  generalize s % p = r at *
  generalize s / p = q at *
  have h2 := Nat.div_add_mod q 2
  have e1 : q / 2 * (p * 2) = 2 * (q / 2) * p := by rw [← Nat.mul_assoc, Nat.mul_comm (q / 2 * p), ← Nat.mul_assoc]
  rw [e1]
  rcases (show q % 2 = 0 ∨ q % 2 = 1 by omega) with e | e
  · rw [e, Nat.add_zero] at h2
    rw [h2, if_neg]
    rw [Nat.mul_comm q p]
    omega
  · rw [e] at h2
    have e3 : q * p = 2 * (q / 2) * p + p := by conv => lhs; rw [← h2, Nat.add_mul, Nat.one_mul]
    rw [Nat.mul_comm p q] at h
    rw [if_pos (by omega)]
    exact e3
theorem rn_128 (m : Nat) (hm : m < M) : rn m 128 = 0 := by
  rw [rn, Nat.div_eq_of_lt (rt_128 m hm), Nat.zero_mul]
theorem rn_zero (m : Nat) : rn m 0 = rt m := by simp [rn]
theorem rn_try (m n : Nat) (hm : m < M) (hn : n < 128) : rn m (n + 1) + 2 ^ n < 2 ^ 128 := by
  have h1 := rt_128 m hm
  have h2 : rn m (n + 1) ≤ rt m := Nat.div_mul_le_self _ _
  have h3 : rn m (n + 1) = rt m / 2 ^ (n + 1) * 2 ^ (n + 1) := rfl
  have h4 : (2 : Nat) ^ 128 = 2 ^ (127 - n) * 2 ^ (n + 1) := by rw [← Nat.pow_add]; congr 1; omega
  rw [h4] at h1 ⊢
  have h5 : rt m / 2 ^ (n + 1) < 2 ^ (127 - n) := by rw [Nat.div_lt_iff_lt_mul (Nat.two_pow_pos _)]; exact h1
  have h6 : (rt m / 2 ^ (n + 1) + 1) * 2 ^ (n + 1) ≤ 2 ^ (127 - n) * 2 ^ (n + 1) := Nat.mul_le_mul_right _ h5
  rw [Nat.add_mul, Nat.one_mul, ← h3] at h6
  have h7 : (2 : Nat) ^ n < 2 ^ (n + 1) := Nat.pow_lt_pow_right (by decide) (by omega)
  omega
theorem sq_M (y : Nat) (h : y < 2 ^ 128) : y < M ∧ y * y < M ∧ y * y / M = 0 := by
  have e : M = 2 ^ 128 * 2 ^ 128 := by decide
  have h1 : y * y < M := by rw [e]; exact Nat.mul_lt_mul_of_lt_of_le h (by omega) (by decide)
  have h2 : (2 : Nat) ^ 128 < M := by decide
  exact ⟨by omega, h1, Nat.div_eq_of_lt h1⟩
/-- Three rows: a number, an answer's place, a number that grows. -/
structure Tri (w W : World) (t : TypeId) (m r : Nat) : Prop where
  a : W.heap[w.heap.size]? = some (.cells (wn m) t (0, 0))
  b : W.heap[w.heap.size + 1]? = some (.cells (wn 0) t (0, 0))
  c : W.heap[w.heap.size + 1 + 1]? = some (.cells (wn r) t (0, 0))
  bel : Below w.heap.size w W
section
variable {w W W' : World} {t : TypeId} {m r : Nat}
theorem Tri.start (w : World) (t : TypeId) (m r : Nat) : Tri w (((w.alloc (.cells (wn m) t)).alloc (.cells (wn 0) t)).alloc (.cells (wn r) t)) t m r := by
  obtain ⟨e1, e2, e3⟩ := blk3 w (.cells (wn m) t) (.cells (wn 0) t) (.cells (wn r) t)
  exact ⟨e1, e2, e3, below3 w _ _ _⟩
theorem Tri.next (j : Tri w W t m r) (h : Below W.heap.size W W') : Tri w W' t m r := ⟨(h.block _ (lt_heap j.a)).trans j.a, (h.block _ (lt_heap j.b)).trans j.b, (h.block _ (lt_heap j.c)).trans j.c, below_next j.bel h⟩
theorem Tri.put (j : Tri w W t m r) (s : Nat) : Tri w (W.setRow (w.heap.size + 1 + 1) (wn s)) t m s :=
  ⟨(setRow_other _ _ _ _ (by omega)).trans j.a, (setRow_other _ _ _ _ (by omega)).trans j.b, setRow_heap _ _ _ _ _ _ j.c, below_setRow j.bel (by omega) _⟩
theorem Tri.lt (j : Tri w W t m r) : w.heap.size + 1 + 1 < W.heap.size := lt_heap j.c
end
theorem xor_ones (x : Nat) (h : x < 18446744073709551616) : 18446744073709551615 ^^^ x = 18446744073709551615 - x := by
  have e : 18446744073709551615 ^^^ x = (BitVec.allOnes 64 ^^^ BitVec.ofNat 64 x).toNat := by
    rw [BitVec.toNat_xor, BitVec.toNat_allOnes, BitVec.toNat_ofNat, Nat.mod_eq_of_lt h]
  rw [e, BitVec.allOnes_xor, BitVec.toNat_not, BitVec.toNat_ofNat, Nat.mod_eq_of_lt h]
theorem not_bits (x : Nat) (h : x < 18446744073709551616) : bits .xor .u64 (if IntKind.u64.signed = true then -1 else IntKind.u64.max) (x : Int) = ((18446744073709551615 - x : Nat) : Int) := by
  rw [show (if IntKind.u64.signed = true then -1 else IntKind.u64.max) = ((18446744073709551615 : Nat) : Int) from by decide, u64_xor_nat _ _ (by decide) h, xor_ones x h]
section
set_option maxRecDepth 10000
set_option maxHeartbeats 2000000
end
end Go.Proofs.YtpffaaalncdjcaaGreatDoor
namespace Go.Proofs.YtpffaaalncdjcaaGreatDoor
open Go.RowKit
open Go.Deep
/-- What is known in the inner loop of a product. -/
structure In (B i k a n c : Nat) (f g : Nat → Nat) : Prop where
  eq : vs B f (i + k) + c * B ^ (i + k) = vs B g (i + k) + a * (n % B ^ k) * B ^ i
  hc : c < B
  same : ∀ j, i + k ≤ j → f j = g j
  lt : ∀ j, f j < B
theorem In.start {B i a n : Nat} {g : Nat → Nat} (h0 : 0 < B) (h : ∀ j, g j < B) : In B i 0 a n 0 g g :=
  ⟨by simp [Nat.mod_one], h0, fun _ _ => rfl, h⟩
theorem In.next {B i k a n c : Nat} {f g : Nat → Nat} (h : In B i k a n c f g) (s : Nat) (hs : s = a * dg B n k + f (i + k) + c) (hlt : s / B < B) : In B i (k + 1) a n (s / B) (fun j => if j = i + k then s % B else f j) g := by
  have h0 : 0 < B := Nat.lt_of_le_of_lt (Nat.zero_le _) h.hc
  refine ⟨?_, hlt, fun j hj => ?_, fun j => ?_⟩
  · refine mul_step B f _ g i k a n c s h.eq ?_ (fun j hj => if_neg (by omega)) (if_pos rfl)
    rw [hs, h.same (i + k) (Nat.le_refl _)]
    omega
  · rw [if_neg (by omega)]
    exact h.same j (by omega)
  · split
    · exact Nat.mod_lt _ h0
    · exact h.lt j
/-- What is known in the outer loop of a product. -/
structure Ou (B i N m n : Nat) (f : Nat → Nat) : Prop where
  eq : vs B f (i + N) = m % B ^ i * n
  lt : ∀ j, f j < B
theorem vs_zero (B : Nat) : ∀ k, vs B (fun _ => 0) k = 0
  | 0 => rfl
  | k + 1 => by rw [vs, vs_zero B k]; simp
theorem Ou.start {B N m n : Nat} (h0 : 0 < B) : Ou B 0 N m n (fun _ => 0) := ⟨by rw [vs_zero]; simp [Nat.mod_one], fun _ => h0⟩
theorem Ou.next {B i N m n c : Nat} {f g : Nat → Nat} (h : Ou B i N m n g) (hn : n < B ^ N) (hi : In B i N (dg B m i) n c f g) : Ou B (i + 1) N m n (fun j => if j = i + N then c else f j) := by
  refine ⟨mul_row B f _ g i N m n c hn h.eq hi.eq (fun j hj => if_neg (by omega)) (if_pos rfl), fun j => ?_⟩
  split
  · exact hi.hc
  · exact hi.lt j
theorem Ou.end {B N m n : Nat} {f : Nat → Nat} (h : Ou B N N m n f) (hm : m < B ^ N) (j : Nat) (hj : j < N + N) : f j = dg B (m * n) j := by
  have e := h.eq
  rw [Nat.mod_eq_of_lt hm] at e
  rw [← e]
  exact (dg_vs (fun i _ => h.lt i) j hj).symm
theorem dg_up (B n j k : Nat) : dg B n (j + k) = dg B (n / B ^ k) j := by
  unfold dg
  rw [Nat.div_div_eq_div_mul, Nat.pow_add, Nat.mul_comm]
/-- Two numbers, the places of two answers, and a row. -/
structure Mu (w W : World) (t u : TypeId) (k m n : Nat) (f : Nat → Nat) : Prop where
  a : Nd W w.heap.size t 4 (wd m)
  b : Nd W (w.heap.size + 1) t 4 (wd n)
  r : W.heap[w.heap.size + 1 + 1]? = some (.cells (wn 0) t (0, 0))
  s : W.heap[w.heap.size + 1 + 1 + 1]? = some (.cells (wn 0) t (0, 0))
  o : Nd W (w.heap.size + 1 + 1 + 1 + 1) u k f
  bel : Below w.heap.size w W
theorem Mu.start (w : World) (t u : TypeId) (k m n : Nat) (f : Nat → Nat) : Mu w (((((w.alloc (.cells (wn m) t)).alloc (.cells (wn n) t)).alloc (.cells (wn 0) t)).alloc (.cells (wn 0) t)).alloc (.cells (nc k f) u)) t u k m n f := by
  obtain ⟨e1, e2, e3, e4⟩ := blk4 w (.cells (wn m) t) (.cells (wn n) t) (.cells (wn 0) t) (.cells (wn 0) t)
  have b4 := below4 w (.cells (wn m) t) (.cells (wn n) t) (.cells (wn 0) t) (.cells (wn 0) t)
  have hs : ((((w.alloc (.cells (wn m) t)).alloc (.cells (wn n) t)).alloc (.cells (wn 0) t)).alloc (.cells (wn 0) t)).heap.size = w.heap.size + 1 + 1 + 1 + 1 := by simp
  have e5 := heap_alloc_last ((((w.alloc (.cells (wn m) t)).alloc (.cells (wn n) t)).alloc (.cells (wn 0) t)).alloc (.cells (wn 0) t)) (.cells (nc k f) u)
  rw [hs] at e5
  exact ⟨Nd.of_heap ((Below.heap_alloc _ _ _ (lt_heap e1)).trans e1), Nd.of_heap ((Below.heap_alloc _ _ _ (lt_heap e2)).trans e2), (Below.heap_alloc _ _ _ (lt_heap e3)).trans e3, (Below.heap_alloc _ _ _ (lt_heap e4)).trans e4, Nd.of_heap e5, b4.alloc (by simp; omega) _⟩
theorem Mu.set {w W : World} {t u : TypeId} {k m n : Nat} {f : Nat → Nat} (j : Mu w W t u k m n f) (i x : Nat) : Mu w (W.setCell ⟨w.heap.size + 1 + 1 + 1 + 1, i, none⟩ (.int .u64 ((x : Nat) : Int))) t u k m n (fun k => if k = i then x else f k) :=
  ⟨j.a.other (by omega) _ _, j.b.other (by omega) _ _, (Below.heap_setCell _ _ _ _ (by simp)).trans j.r, (Below.heap_setCell _ _ _ _ (by simp)).trans j.s, j.o.set i x, j.bel.setCell (by simp; omega) _⟩
theorem Mu.drew {w W : World} {t u : TypeId} {k m n : Nat} {f : Nat → Nat} (j : Mu w W t u k m n f) : Mu w W.drew t u k m n f := ⟨j.a, j.b, j.r, j.s, j.o, j.bel.drew⟩
theorem Mu.two {w W : World} {t u : TypeId} {k m n : Nat} {f : Nat → Nat} (j : Mu w W t u k m n f) (c d : Array Value) : ((W.setRow (w.heap.size + 1 + 1) c).setRow (w.heap.size + 1 + 1 + 1) d).heap[w.heap.size + 1 + 1]? = some (.cells c t (0, 0)) ∧ ((W.setRow (w.heap.size + 1 + 1) c).setRow (w.heap.size + 1 + 1 + 1) d).heap[w.heap.size + 1 + 1 + 1]? = some (.cells d t (0, 0)) ∧ Below w.heap.size w ((W.setRow (w.heap.size + 1 + 1) c).setRow (w.heap.size + 1 + 1 + 1) d) := by
  refine ⟨(setRow_other _ _ _ _ (by omega)).trans (setRow_heap _ _ _ _ _ _ j.r), setRow_heap _ _ _ _ _ _ ((setRow_other _ _ _ _ (by omega)).trans j.s), below_setRow (below_setRow j.bel (by omega) _) (by omega) _⟩
def bdW (x : Array (Nat × Value)) : Sem Value := Instr.build 209 x
theorem bdW_eq (x : Array (Nat × Value)) : Instr.build 209 x = bdW x := rfl
theorem bdW_run (n : Nat) (w : World) : (bdW #[(0, .int .u64 ((wd n 0 : Nat) : Int)), (1, .int .u64 ((wd n 1 : Nat) : Int)), (2, .int .u64 ((wd n 2 : Nat) : Int)), (3, .int .u64 ((wd n 3 : Nat) : Int))]).run Tryz.prog w = .ok (.agg (wn n)) w := by
  rw [wn_four]
  generalize wd n 0 = a
  generalize wd n 1 = b
  generalize wd n 2 = c
  generalize wd n 3 = d
  kernel_rfl
attribute [local go_sem ↓] ldW_eq svW_eq bdW_eq
section
set_option maxRecDepth 10000
set_option maxHeartbeats 4000000
end
end Go.Proofs.YtpffaaalncdjcaaGreatDoor
namespace Go.Proofs.YtpffaaalncdjcaaGreatDoor
open Go.RowKit
open Go.Deep
/-- The target that bits say. -/
def tgt (b : Nat) : Nat := if b / 16777216 < 3 then b % 8388608 / 2 ^ (8 * (3 - b / 16777216)) else b % 8388608 * 2 ^ (8 * (b / 16777216 - 3))
theorem and_low (b : Nat) (hb : b < 4294967296) : bits .and .u32 (b : Int) 8388607 = ((b % 8388608 : Nat) : Int) := by
  have e := u32_and_nat b 8388607 hb (by decide)
  rw [show ((8388607 : Nat) : Int) = 8388607 from rfl] at e
  rw [e]
  congr 1
  exact Nat.and_two_pow_sub_one_eq_mod b 23
theorem and_pow (b k : Nat) : b &&& 2 ^ k = if b / 2 ^ k % 2 = 1 then 2 ^ k else 0 := by
  apply Nat.eq_of_testBit_eq
  intro i
  rw [Nat.testBit_and, Nat.testBit_two_pow]
  by_cases h : k = i
  · subst h
    rw [Nat.testBit_eq_decide_div_mod_eq]
    by_cases h2 : b / 2 ^ k % 2 = 1 <;> simp [h2]
  · simp only [h, decide_false, Bool.and_false]
    split
    · rw [Nat.testBit_two_pow]
      simp [h]
    · simp
theorem and_bit (b : Nat) (hb : b < 4294967296) : (bits .and .u32 (b : Int) 8388608 != 0) = decide (b / 8388608 % 2 = 1) := by
  have e := u32_and_nat b 8388608 hb (by decide)
  rw [show ((8388608 : Nat) : Int) = 8388608 from rfl] at e
  have e2 : b &&& 8388608 = if b / 8388608 % 2 = 1 then 8388608 else 0 := and_pow b 23
  rw [e, e2]
  by_cases h : b / 8388608 % 2 = 1
  · rw [if_pos h]
    simp only [h]
    decide
  · rw [if_neg h]
    simp only [h]
    decide
theorem big_none (a k : Nat) (h : 256 ≤ k) : wn (a * 2 ^ k) = wn 0 ∧ decide (M ≤ a * 2 ^ k) = decide (0 < a) := by
  have e : 2 ^ k = M * 2 ^ (k - 256) := by rw [M_pow, ← Nat.pow_add, show 256 + (k - 256) = k by omega]
  have hp := Nat.two_pow_pos (k - 256)
  constructor
  · rw [e, Nat.mul_left_comm, ← wn_mod, Nat.mul_mod_right]
  · rw [Bool.eq_iff_iff]
    simp only [decide_eq_true_eq]
    constructor
    · intro h1
      rcases Nat.eq_zero_or_pos a with h2 | h2
      · subst h2
        rw [Nat.zero_mul] at h1
        exact absurd h1 (by decide)
      · exact h2
    · intro h1
      rw [e, Nat.mul_left_comm]
      exact Nat.le_mul_of_pos_right M (Nat.mul_pos h1 hp)
section
set_option maxRecDepth 10000
set_option maxHeartbeats 2000000
theorem said_any (b : Nat) (hb : b < 4294967296) (w : World) : Calls Tryz.prog 161 #[.int .u32 (b : Int)] w fun e w' => e = .returned (.tuple #[.agg (wn (tgt b)), .bool (decide (M ≤ tgt b))]) ∧ Below w.heap.size w w' := by
  have hl := and_low b hb
  have hmm : b % 8388608 < 18446744073709551616 := by omega
  have HF := hide fun W => from_any (b % 8388608) hmm W
  have hmM : b % 8388608 < M := Nat.lt_trans hmm (by decide)
  have hs : (b : Int) / 16777216 = ((b / 16777216 : Nat) : Int) := by omega
  have hs8 : b / 16777216 < 256 := by omega
  have w1 : IntKind.i64.wrap ((b / 16777216 : Nat) : Int) = ((b / 16777216 : Nat) : Int) := wrapI _ (by omega) (by omega)
  have w2 : IntKind.i64.wrap (((b / 16777216 : Nat) : Int) - 3) = ((b / 16777216 : Nat) : Int) - 3 := wrapI _ (by omega) (by omega)
  have w3 : IntKind.i64.wrap (8 * (((b / 16777216 : Nat) : Int) - 3)) = 8 * (((b / 16777216 : Nat) : Int) - 3) := wrapI _ (by omega) (by omega)
  have w4 : IntKind.u64.wrap ((b % 8388608 : Nat) : Int) = ((b % 8388608 : Nat) : Int) := wrapu _ (by omega) (by omega)
  have HL : Hid (∀ W, Calls Tryz.prog 180 #[.agg (wn (b % 8388608)), .int .i64 (8 * (((b / 16777216 : Nat) : Int) - 3))] W fun e w' => e = .returned (.tuple #[.agg (wn (tgt b)), .bool (decide (M ≤ tgt b))]) ∧ Below W.heap.size W w') := by
    intro W
    unfold tgt
    generalize b / 16777216 = s at *
    generalize b % 8388608 = u at *
    by_cases h3 : s < 3
    · rw [if_pos h3]
      have := left_neg u (8 * ((s : Int) - 3)) (8 * (3 - s)) hmM (by omega) (by unfold sh; rw [if_neg (by omega), if_neg (by omega)]; omega) (by omega) W
      have hlt : u / 2 ^ (8 * (3 - s)) < M := Nat.lt_of_le_of_lt (Nat.div_le_self _ _) hmM
      rw [show decide (M ≤ u / 2 ^ (8 * (3 - s))) = false by simp; omega]
      exact this
    · rw [if_neg h3]
      by_cases hk : 8 * (s - 3) ≤ 256
      · exact left_pos u (8 * ((s : Int) - 3)) (8 * (s - 3)) hmM (by unfold sh; rw [if_neg (by omega), if_neg (by omega)]; omega) hk W
      · have := left_pos u (8 * ((s : Int) - 3)) 256 hmM (by unfold sh; rw [if_neg (by omega), if_pos (by omega)]; rfl) (by omega) W
        rw [(big_none u 256 (by omega)).1, (big_none u 256 (by omega)).2] at this
        rw [(big_none u (8 * (s - 3)) (by omega)).1, (big_none u (8 * (s - 3)) (by omega)).2]
        exact this
  have J0 := hide (heap_alloc_last w (.cells (wn 0) 209))
  have B0 := hide ((Below.refl w.heap.size w).alloc (Nat.le_refl _) (.cells (wn 0) 209))
  generalize tgt b = T at *
  generalize decide (M ≤ T) = ov at *
  clear hmm hmM hs8
  generalize b % 8388608 = u at *
  generalize b / 16777216 = s at *
  go_enter Tryz.func161, Tryz.ntmps161
  go_upto_region 1 with (refine wpList_allocA AW rfl rfl ?_)
  generalize w.alloc (.cells (wn 0) 209) = W0 at *
  go_wp2_with (first | (go_at_call 181; refine (HF.out _).mono ?_; rintro e w1 ⟨rfl, b1⟩; have J1 := hide ((b1.block _ (lt_heap J0.out)).trans J0.out); have B1 := hide (below_next B0.out b1); clear b1) | (go_at_call 180; refine (HL.out _).mono ?_; rintro e w2 ⟨rfl, b2⟩; have J2 := hide ((b2.block _ (lt_heap J1.out)).trans J1.out); have B2 := hide (below_next B1.out b2); clear b2) | refine wpList_storeA AW rfl _ _ rfl _ (wn T) (wn_size _) (wn_one _) rfl rfl (wn 0) (wn_size 0) 209 J2.out ?_)
  exact bodyPost_ret (v := .tuple #[.agg (wn T), .bool ov]) (resA2 AW Tryz.results161 _ _ w.heap.size 209 (wn T) (wn_size _) rfl (setRow_heap _ _ _ _ _ _ J2.out) _ (by rfl)) rfl ⟨rfl, below_setRow B2.out (Nat.le_refl _) _⟩
end
end Go.Proofs.YtpffaaalncdjcaaGreatDoor
namespace Go.Proofs.YtpffaaalncdjcaaGreatDoor
open Go.RowKit
open Go.Deep
/-- The greatest target. -/
def Lm : Nat := 8388607 * 2 ^ 232
theorem Lm_eq : tgt 545259519 = Lm := by decide +kernel
theorem Lm_M : Lm < M := by decide +kernel
theorem Lm_ov : decide (M ≤ Lm) = false := by decide +kernel
/-- Bits that may be. -/
def okB (b : Nat) : Bool := decide (b / 8388608 % 2 = 0) && decide (0 < tgt b) && decide (tgt b ≤ Lm)
section
set_option maxRecDepth 10000
set_option maxHeartbeats 2000000
theorem limit_any (w : World) : Calls Tryz.prog 164 #[] w fun e w' => e = .returned (.agg (wn Lm)) ∧ Below w.heap.size w w' := by
  have HS : Hid (∀ W, Calls Tryz.prog 161 #[.int .u32 545259519] W fun e w' => e = .returned (.tuple #[.agg (wn Lm), .bool false]) ∧ Below W.heap.size W w') := fun W => by
    have := said_any 545259519 (by decide) W
    rw [Lm_eq, Lm_ov] at this
    exact this
  have J0 := hide (heap_alloc_last w (.cells (wn 0) 209))
  have B0 := hide ((Below.refl w.heap.size w).alloc (Nat.le_refl _) (.cells (wn 0) 209))
  generalize Lm = L at *
  go_enter Tryz.func164, Tryz.ntmps164
  go_upto_region 1 with (refine wpList_allocA AW rfl rfl ?_)
  generalize w.alloc (.cells (wn 0) 209) = W0 at *
  go_wp2_with (first | (go_at_call 161; refine (HS.out _).mono ?_; rintro e w1 ⟨rfl, b1⟩; have J1 := hide (((below_allocZ w1 (.cells (wn L) 209)).block _ (Nat.lt_of_lt_of_le (lt_heap J0.out) b1.size)).trans ((b1.block _ (lt_heap J0.out)).trans J0.out)); have B1 := hide (below_next (below_next B0.out b1) (below_allocZ w1 (.cells (wn L) 209))); have G1 := hide (heap_alloc_last w1 (.cells (wn L) 209)); clear b1) | refine wpList_allocA AW rfl rfl ?_ | refine wpList_store_newA AW rfl _ _ rfl _ rfl (wn L) (wn_size _) (wn_one _) rfl rfl ?_ | refine wpList_loadA AW rfl _ rfl _ rfl (wn L) (wn_size _) 209 G1.out ?_ | refine wpList_storeA AW rfl _ _ rfl _ (wn L) (wn_size _) (wn_one _) rfl rfl (wn 0) (wn_size 0) 209 J1.out ?_)
  exact bodyPost_ret (v := .agg (wn L)) (resA AW Tryz.results164 _ _ w.heap.size 209 (wn L) (wn_size _) rfl (setRow_heap _ _ _ _ _ _ J1.out)) rfl ⟨rfl, below_setRow B1.out (Nat.le_refl _) _⟩
/-- Expand, by what its four tests say. -/
theorem expand_core (b : Nat) (hb : b < 4294967296) (ov sg zb gt : Bool) (hov : decide (M ≤ tgt b) = ov) (hsg : decide (b / 8388608 % 2 = 1) = sg) (hzb : decide (tgt b % M = 0) = zb) (hgt : decide (0 < cmpZ (tgt b % M) Lm) = gt) (w : World) :
    Calls Tryz.prog 135 #[.int .u32 (b : Int)] w fun e w' => e = .returned (if ov || sg || zb || gt then .tuple #[.agg (wn 0), .int .i64 50] else .tuple #[.agg (wn (tgt b % M)), .int .i64 0]) ∧ Below w.heap.size w w' := by
  have HS := hide fun W => said_any b hb W
  rw [hov, ← wn_mod] at HS
  have hand := and_bit b hb
  rw [hsg] at hand
  have hT := Nat.mod_lt (tgt b) M_pos
  have HZ := hide fun W => zero_any _ hT W
  rw [hzb] at HZ
  have HL := hide fun W => limit_any W
  have HC := hide fun W => compare_any _ _ hT Lm_M W
  have J0 := hide (Rs.start1 w 209 0)
  generalize tgt b % M = T at *
  generalize Lm = L at *
  generalize cmpZ T L = z at *
  clear hov hsg hzb hT hb
  go_enter Tryz.func135, Tryz.ntmps135
  go_upto_region 1 with (refine wpList_allocA AW rfl rfl ?_)
  generalize w.alloc (.cells (wn 0) 209) = W0 at *
  go_upto_region 2 with (first | (go_at_call 161; refine (HS.out _).mono ?_; rintro e w1 ⟨rfl, be⟩; have J1 := hide ((J0.out.next be).new 209 T); clear be) | refine wpList_allocA AW rfl rfl ?_ | refine wpList_store_newA AW rfl _ _ rfl _ rfl (wn T) (wn_size _) (wn_one _) rfl rfl ?_)
  have LT := hide (lt_heap (J0.out.at (g := w.heap.size) (t := 209) (n := 0) (by simp)))
  generalize w1.alloc (.cells (wn T) 209) = W1 at *
  generalize w1.heap.size = g4 at *
  clear J0 HS
  have hc : ov = true ∨ (ov = false ∧ sg = true) ∨ (ov = false ∧ sg = false ∧ zb = true) ∨ (ov = false ∧ sg = false ∧ zb = false ∧ gt = true) ∨ (ov = false ∧ sg = false ∧ zb = false ∧ gt = false) := by
    cases ov <;> cases sg <;> cases zb <;> cases gt <;> simp
  have r2 := hide (J1.out.at (g := w.heap.size) (t := 209) (n := 0) (by simp))
  obtain ⟨I, hne, F, i0, h0, hJ, hcl⟩ := J1.out.cls
  rcases hc with rfl | ⟨rfl, rfl⟩ | ⟨rfl, rfl, rfl⟩ | ⟨rfl, rfl, rfl, rfl⟩ | ⟨rfl, rfl, rfl, rfl⟩
  all_goals
    refine wp_region_class_lit (by kernel_rfl) (by kernel_rfl) i0 h0 ?_
    repeat (first | ((go_big_quiet_want; refine quiet_loadA AW _ (by rfl) g4 (by rfl) (wn T) (wn_size _) 209 (Rs.of hJ (by simp)) ?_); go_big_quiet_on; simp only [Act.put, List.setIfInBounds_toArray, List.set_cons_succ, List.set_cons_zero]) | go_big_quiet_step (first | (go_at_call 162; exact class_of hcl.out (HZ.out _)) | (go_at_call 164; exact class_of hcl.out (HL.out _)) | (go_at_call 163; exact class_of hcl.out (HC.out _))))
    refine wpQuiet_nil ?_
    rintro _ ⟨iq, rfl⟩
    have J2 := hide (hJ.out iq)
    clear hJ hcl h0 HZ HL HC r2
    generalize F iq = W2 at *
    have r2 := hide (J2.out.at (g := w.heap.size) (t := 209) (n := 0) (by simp))
    have r4 := hide (J2.out.at (g := g4) (t := 209) (n := T) (by simp))
  iterate 4
    · go_wp2_with (first | refine wpList_buildA AW rfl rfl ?_ | refine wpList_storeA AW rfl _ _ rfl _ (wn 0) (wn_size _) (wn_one _) rfl rfl (wn 0) (wn_size 0) 209 r2.out ?_)
      exact bodyPost_ret (v := .tuple #[.agg (wn 0), .int .i64 50]) (resA2 AW Tryz.results135 _ _ w.heap.size 209 (wn 0) (wn_size _) rfl (setRow_heap _ _ _ _ _ _ r2.out) _ (by rfl)) rfl ⟨rfl, below_setRow J2.out.bel (Nat.le_refl _) _⟩
  · go_wp2_with (first | refine wpList_loadA AW rfl _ rfl g4 rfl (wn T) (wn_size _) 209 r4.out ?_ | refine wpList_storeA AW rfl _ _ rfl _ (wn T) (wn_size _) (wn_one _) rfl rfl (wn 0) (wn_size 0) 209 r2.out ?_)
    exact bodyPost_ret (v := .tuple #[.agg (wn T), .int .i64 0]) (resA2 AW Tryz.results135 _ _ w.heap.size 209 (wn T) (wn_size _) rfl (setRow_heap _ _ _ _ _ _ r2.out) _ (by rfl)) rfl ⟨rfl, below_setRow J2.out.bel (Nat.le_refl _) _⟩
end
theorem cmp_gt (m n : Nat) : (0 < cmpZ m n) = (n < m) := by
  apply propext
  unfold cmpZ
  split
  · simp; omega
  · split <;> simp <;> omega
theorem expand_yes (b : Nat) (hb : b < 4294967296) (h : okB b = true) (w : World) : Calls Tryz.prog 135 #[.int .u32 (b : Int)] w fun e w' => e = .returned (.tuple #[.agg (wn (tgt b)), .int .i64 0]) ∧ Below w.heap.size w w' := by
  unfold okB at h
  simp only [Bool.and_eq_true, decide_eq_true_eq] at h
  have hL := Lm_M
  have := expand_core b hb false false false false (by simp; omega) (by simp; omega) (by rw [Nat.mod_eq_of_lt (by omega)]; simp; omega) (by rw [Nat.mod_eq_of_lt (by omega)]; simp only [cmp_gt]; simp; omega) w
  rw [Nat.mod_eq_of_lt (by omega)] at this
  exact this
theorem expand_no (b : Nat) (hb : b < 4294967296) (h : okB b = false) (w : World) : Calls Tryz.prog 135 #[.int .u32 (b : Int)] w fun e w' => e = .returned (.tuple #[.agg (wn 0), .int .i64 50]) ∧ Below w.heap.size w w' := by
  have := expand_core b hb _ _ _ _ rfl rfl rfl rfl w
  rw [if_pos] at this
  · exact this
  · simp only [cmp_gt, Bool.or_eq_true, decide_eq_true_eq]
    unfold okB at h
    by_cases h1 : M ≤ tgt b
    · exact .inl (.inl (.inl h1))
    · rw [Nat.mod_eq_of_lt (show tgt b < M by omega)]
      by_cases h2 : b / 8388608 % 2 = 1
      · exact .inl (.inl (.inr h2))
      · by_cases h3 : tgt b = 0
        · exact .inl (.inr h3)
        · right
          rcases Nat.lt_or_ge Lm (tgt b) with h4 | h4
          · exact h4
          · rw [show decide (b / 8388608 % 2 = 0) = true by simp; omega, show decide (0 < tgt b) = true by simp; omega, show decide (tgt b ≤ Lm) = true by simp; omega] at h
            cases h
end Go.Proofs.YtpffaaalncdjcaaGreatDoor
namespace Go.Proofs.YtpffaaalncdjcaaGreatDoor
open Go.RowKit
open Go.Deep
/-- The number of 32 bytes. -/
def hv (l : List UInt8) : Nat := vs 256 (by8 l) 32
theorem hv_lt (l : List UInt8) : hv l < M := by
  have := vs_lt (B := 256) (f := by8 l) (k := 32) (fun i _ => by8_lt l i)
  have e : M = 256 ^ 32 := by decide +kernel
  rw [e]
  exact this
/-- The digits below i, zeros behind. -/
def lowd (l : List UInt8) (i j : Nat) : Nat := if j < i then by8 l j else 0
theorem lowd_step (l : List UInt8) (i j : Nat) : (if j = i then by8 l i else lowd l i j) = lowd l (i + 1) j := by
  unfold lowd
  by_cases e : j = i
  · rw [if_pos e, if_pos (by omega), e]
  · rw [if_neg e]
    by_cases e2 : j < i
    · rw [if_pos e2, if_pos (by omega)]
    · rw [if_neg e2, if_neg (by omega)]
theorem lowd_end (l : List UInt8) (j : Nat) : lowd l 32 j = dg 256 (hv l) j := by
  unfold lowd hv
  split
  · rename_i h
    exact (dg_vs (fun i _ => by8_lt l i) j h).symm
  · rename_i h
    have h1 := vs_lt (B := 256) (f := by8 l) (k := 32) (fun i _ => by8_lt l i)
    have h2 : 256 ^ 32 ≤ 256 ^ j := Nat.pow_le_pow_right (by decide) (by omega)
    rw [dg, Nat.div_eq_of_lt (by omega), Nat.zero_mod]
/-- Bytes, an answer's place, and a row of ints. -/
structure On (w W : World) (t u : TypeId) (l : List UInt8) (f : Nat → Nat) : Prop where
  a : W.heap[w.heap.size]? = some (.cells (hc l) t (0, 0))
  r : W.heap[w.heap.size + 1]? = some (.cells (bn 0) u (0, 0))
  o : Ni W (w.heap.size + 1 + 1) u 40 f
  bel : Below w.heap.size w W
theorem On.start (w : World) (t u : TypeId) (l : List UInt8) : On w (((w.alloc (.cells (hc l) t)).alloc (.cells (bn 0) u)).alloc (.cells (bn 0) u)) t u l (dg 256 0) := by
  obtain ⟨e1, e2, e3⟩ := blk3 w (.cells (hc l) t) (.cells (bn 0) u) (.cells (bn 0) u)
  exact ⟨e1, e2, Ni.of_heap e3, below3 w _ _ _⟩
theorem On.set {w W : World} {t u : TypeId} {l : List UInt8} {f : Nat → Nat} (j : On w W t u l f) (i x : Nat) : On w (W.setCell ⟨w.heap.size + 1 + 1, i, none⟩ (.int .i64 ((x : Nat) : Int))) t u l (fun k => if k = i then x else f k) :=
  ⟨(Below.heap_setCell _ _ _ _ (by simp <;> omega)).trans j.a, (Below.heap_setCell _ _ _ _ (by simp <;> omega)).trans j.r, j.o.set i x, j.bel.setCell (by simp <;> omega) _⟩
theorem On.congr {w W : World} {t u : TypeId} {l : List UInt8} {f f' : Nat → Nat} (j : On w W t u l f) (e : ∀ i, i < 40 → f i = f' i) : On w W t u l f' := ⟨j.a, j.r, j.o.congr e, j.bel⟩
theorem A49 : Arr 23 32 (hc zeros) := ⟨.inl ⟨_, _, Tryz.underlying23⟩, by kernel_rfl, fun w => by kernel_rfl, fun w => by kernel_rfl, by rw [hc_size]; rfl⟩
theorem hc_cell {W : World} {g : Nat} {t : TypeId} {l : List UInt8} (h : W.heap[g]? = some (.cells (hc l) t (0, 0))) (i : Nat) (hi : i < l.length) : W.cell? ⟨g, i, none⟩ = some (.int .u8 (by8 l i : Int)) :=
  World.rowIs.cell (row_of (f := fun i => .int .u8 (by8 l i : Int)) (hc_size l) h (fun k hk => hc_at l k hk)) hi
section
set_option maxRecDepth 10000
set_option maxHeartbeats 2000000
end
end Go.Proofs.YtpffaaalncdjcaaGreatDoor
