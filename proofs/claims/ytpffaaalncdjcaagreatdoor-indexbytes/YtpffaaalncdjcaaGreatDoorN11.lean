/- The contract of the library's Div64. The contracts of wide.Low, mulAdd, divWord; Div by one word; awake. The document's Add; wide.Low, Div by one word, awake, Sum. wide.Div by one word, awake. awake; wide.Sum; the law WideLists: its walk. The contracts of the document's Compare and Not, and of wide.Not. The mathematics of bits and shifts. The contracts of wide.Bit, Bits, Not, and the document's Bit, Bits, Not, Compare. The contracts of wide.Bits, the document's Bits, Not, Compare, and wide.Not. -/
import Derived.Test.YtpffaaalncdjcaaGreatDoorN10
import Derived.Deep.CutBlock
namespace Go.Proofs.YtpffaaalncdjcaaGreatDoor
open Go.RowKit
open Go.Deep
/-- A number shifted so that its highest bit is set. -/
theorem norm_bits (y : Nat) (h0 : 0 < y) (h1 : y < 18446744073709551616) : 9223372036854775808 ≤ y * 2 ^ (64 - bl y) ∧ y * 2 ^ (64 - bl y) < 18446744073709551616 := by
  have a := bl_lt y
  have b := bl_le y h0
  have c := bl_pos y h0
  have d : bl y ≤ 64 := bl_le_of y 64 h1
  have p := Nat.two_pow_pos (64 - bl y)
  constructor
  · have e : 2 ^ (bl y - 1) * 2 ^ (64 - bl y) = 9223372036854775808 := by
      rw [← Nat.pow_add, show bl y - 1 + (64 - bl y) = 63 by omega]
    rw [← e]
    exact Nat.mul_le_mul_right _ b
  · have e : 2 ^ bl y * 2 ^ (64 - bl y) = 18446744073709551616 := by
      rw [← Nat.pow_add, show bl y + (64 - bl y) = 64 by omega]
    rw [← e]
    exact Nat.mul_lt_mul_of_pos_right a p
/-- Two words shifted: the upper word, and the lower one. -/
theorem shift_two (hi lo s : Nat) (hs : s ≤ 64) (hl : lo < 18446744073709551616) : (hi * 18446744073709551616 + lo) * 2 ^ s = (hi * 2 ^ s + lo / 2 ^ (64 - s)) * 18446744073709551616 + lo * 2 ^ s % 18446744073709551616 ∧ lo / 2 ^ (64 - s) < 2 ^ s ∧ lo / 2 ^ (64 - s) = lo * 2 ^ s / 18446744073709551616 := by
  have e : 2 ^ (64 - s) * 2 ^ s = 18446744073709551616 := by rw [← Nat.pow_add, show 64 - s + s = 64 by omega]
  have p := Nat.two_pow_pos s
  have q := Nat.two_pow_pos (64 - s)
  have d : lo / 2 ^ (64 - s) = lo * 2 ^ s / 18446744073709551616 := by rw [← e, Nat.mul_div_mul_right _ _ p]
  refine ⟨?_, ?_, d⟩
  · rw [d, Nat.add_mul, Nat.add_mul, Nat.mul_right_comm]
    have := Nat.div_add_mod (lo * 2 ^ s) 18446744073709551616
    omega
  · rw [Nat.div_lt_iff_lt_mul q, Nat.mul_comm, e]
    exact hl
/-- What the normalized division gives back. -/
theorem norm_div (n y p : Nat) (hp : 0 < p) : n * p / (y * p) = n / y ∧ n * p % (y * p) / p = n % y := by
  refine ⟨Nat.mul_div_mul_right _ _ hp, ?_⟩
  rw [Nat.mul_mod_mul_right, Nat.mul_div_cancel _ hp]
theorem rest_wrap (u x q v : Nat) (hv : v < 18446744073709551616) (hp : 0 < v) (hq : q = (u * 4294967296 + x) / v) : IntKind.u64.wrap (IntKind.u64.wrap (IntKind.u64.wrap ((u : Int) * 4294967296) + x) - IntKind.u64.wrap ((q : Int) * v)) = (((u * 4294967296 + x) % v : Nat) : Int) := by
  rw [← rest_word u x q v hv hp hq]
  simp only [IntKind.wrap_u64]
  generalize (q : Int) * v = P
  omega
theorem guess_quo (u v1 : Nat) (hu : u < 18446744073709551616) : IntKind.u64.wrap ((u : Int) / v1) = ((u / v1 : Nat) : Int) := by
  have h := Nat.div_le_self u v1
  rw [← Int.natCast_ediv]
  generalize u / v1 = d at *
  exact wrapu _ (by omega) (by omega)
theorem guess_rest (u v1 : Nat) (hu : u < 18446744073709551616) : IntKind.u64.wrap ((u : Int) - IntKind.u64.wrap (((u / v1 : Nat) : Int) * v1)) = ((u % v1 : Nat) : Int) := by
  have e := Nat.div_add_mod u v1
  rw [Nat.mul_comm] at e
  rw [← Int.natCast_mul]
  generalize u / v1 * v1 = P at *
  rw [wrapu (P : Int) (by omega) (by omega), wrapu _ (by omega) (by omega)]
  omega
theorem or_shift (hi lo S : Nat) (hS : S ≤ 64) (hl : lo < 18446744073709551616) (hh : hi * 2 ^ S + lo / 2 ^ (64 - S) < 18446744073709551616) : bits .or .u64 (IntKind.u64.wrap ((hi : Int) * 2 ^ S)) ((lo : Int) / 2 ^ (64 - S)) = ((hi * 2 ^ S + lo / 2 ^ (64 - S) : Nat) : Int) := by
  obtain ⟨_, hlt, _⟩ := shift_two hi lo S hS hl
  have e1 : (hi : Int) * 2 ^ S = ((hi * 2 ^ S : Nat) : Int) := by simp
  have e2 : (lo : Int) / 2 ^ (64 - S) = ((lo / 2 ^ (64 - S) : Nat) : Int) := by simp
  rw [e1, e2, wrapu _ (by omega) (by omega), u64_or_nat _ _ (by omega) (by omega)]
  congr 1
  rw [Nat.mul_comm hi, ← Nat.two_pow_add_eq_or_of_lt hlt]
theorem low_word (lo S : Nat) : IntKind.u64.wrap ((lo : Int) * 2 ^ S) = ((lo * 2 ^ S % 18446744073709551616 : Nat) : Int) := by
  rw [IntKind.wrap_u64]
  simp
section
set_option maxRecDepth 10000
set_option maxHeartbeats 4000000
end
end Go.Proofs.YtpffaaalncdjcaaGreatDoor
namespace Go.Proofs.YtpffaaalncdjcaaGreatDoor
open Go.RowKit
open Go.Deep
/-- A step of a division by one digit. -/
theorem div_step (B m y i : Nat) (hy : 0 < y) (hB : 0 < B) : (m / B ^ (i + 1) % y * B + dg B m i) / y = dg B (m / y) i ∧ (m / B ^ (i + 1) % y * B + dg B m i) % y = m / B ^ i % y := by
  unfold dg
  have e1 : m / B ^ (i + 1) = m / B ^ i / B := by rw [Nat.pow_succ, Nat.div_div_eq_div_mul]
  have e2 : m / y / B ^ i = m / B ^ i / y := by rw [Nat.div_div_eq_div_mul, Nat.div_div_eq_div_mul, Nat.mul_comm]
  rw [e1, e2]
  generalize m / B ^ i = N
  have hN := Nat.div_add_mod N B
  have hH := Nat.div_add_mod (N / B) y
  have hr := Nat.mod_lt (N / B) hy
  have hl := Nat.mod_lt N hB
  have key : N = y * (N / B / y * B) + (N / B % y * B + N % B) := by
    have : B * (N / B) = y * (N / B / y * B) + N / B % y * B := by
      conv => lhs; rw [← hH]
      rw [Nat.mul_add, Nat.mul_comm B (N / B % y), Nat.mul_comm B (y * _), Nat.mul_assoc]
    omega
  have hlt : (N / B % y * B + N % B) / y < B := by
    rw [Nat.div_lt_iff_lt_mul hy]
    have : (N / B % y + 1) * B ≤ y * B := Nat.mul_le_mul_right _ hr
    rw [Nat.add_mul] at this
    rw [Nat.mul_comm B y]
    omega
  refine ⟨?_, ?_⟩
  · conv => rhs; rw [key]
    rw [Nat.mul_add_div hy, Nat.mul_comm (N / B / y) B, Nat.mul_add_mod, Nat.mod_eq_of_lt hlt]
  · conv => rhs; rw [key]
    rw [Nat.mul_add_mod]
/-- Words of the quotient from i on, words of the number below. -/
def dwf (m y i j : Nat) : Nat := if i ≤ j then wd (m / y) j else wd m j
theorem dwf_four (m y j : Nat) (h : j < 4) : wd m j = dwf m y 4 j := by rw [dwf, if_neg (by omega)]
theorem dwf_zero (m y j : Nat) (_ : j < 4) : dwf m y 0 j = wd (m / y) j := by rw [dwf, if_pos (by omega)]
theorem dwf_step (m y i j : Nat) : (if j = i then wd (m / y) i else dwf m y (i + 1) j) = dwf m y i j := by
  unfold dwf
  by_cases e : j = i
  · rw [if_pos e, if_pos (by omega), e]
  · rw [if_neg e]
    by_cases e2 : i + 1 ≤ j
    · rw [if_pos e2, if_pos (by omega)]
    · rw [if_neg e2, if_neg (by omega)]
theorem dwf_at (m y i : Nat) : dwf m y (i + 1) i = wd m i := by rw [dwf, if_neg (by omega)]
/-- A number in a block of its own, an answer's place in the next. -/
structure Bd (w W : World) (t : TypeId) (f : Nat → Nat) : Prop where
  a : Nd W w.heap.size t 4 f
  r : W.heap[w.heap.size + 1]? = some (.cells (wn 0) t (0, 0))
  bel : Below w.heap.size w W
theorem Bd.start (w : World) (t : TypeId) (m : Nat) : Bd w ((w.alloc (.cells (wn m) t)).alloc (.cells (wn 0) t)) t (wd m) :=
  ⟨Nd.of_heap (blk2x w _ _).1, (blk2x w _ _).2, below2x w _ _⟩
section
variable {w W W' : World} {t : TypeId} {f : Nat → Nat}
theorem Bd.next (j : Bd w W t f) (h : Below W.heap.size W W') : Bd w W' t f :=
  ⟨j.a.below h, (h.block _ (lt_heap j.r)).trans j.r, below_next j.bel h⟩
theorem Bd.set (j : Bd w W t f) (i x : Nat) : Bd w (W.setCell ⟨w.heap.size, i, none⟩ (.int .u64 ((x : Nat) : Int))) t (fun k => if k = i then x else f k) :=
  ⟨j.a.set i x, (Below.heap_setCell _ _ _ _ (by simp)).trans j.r, j.bel.setCell (Nat.le_refl _) _⟩
theorem Bd.congr (j : Bd w W t f) {f' : Nat → Nat} (e : ∀ i, i < 4 → f i = f' i) : Bd w W t f' := ⟨j.a.congr e, j.r, j.bel⟩
end
section
set_option maxRecDepth 10000
set_option maxHeartbeats 1000000
end
end Go.Proofs.YtpffaaalncdjcaaGreatDoor
namespace Go.Proofs.YtpffaaalncdjcaaGreatDoor
open Go.RowKit
open Go.Deep
/-- The load of a whole array, as an operation of a quiet walk. -/
theorem quiet_loadA {C : World → Prop} {a : Act} {o : Oper} {K : Act → Prop} {t : TypeId} {n : Nat} {z : Array Value} (A : Arr t n z) (x : Operand) (ho : o.op = .load t x) (g : Nat) (hx : a.eval x = .pointer (some ⟨g, 0, none⟩)) (c : Array Value) (hn : c.size = n) (t' : TypeId) (hg : ∀ W, C W → W.heap[g]? = some (.cells c t' (0, 0)))
    (hk : K (a.put o.dst (.agg c))) : o.quiet Tryz.prog a C K := by
  refine ⟨.agg c, fun W hC => ?_, hk⟩
  unfold Oper.quietAt execOp
  simp only [ho, hx, Sem.run_bind, ld_row A hn (hg W hC), Result.andThen_ok, Sem.run_pure]
  exact ⟨rfl, rfl⟩
theorem quiet_build0 {C : World → Prop} {a : Act} {o : Oper} {K : Act → Prop} {t : TypeId} {n : Nat} {z : Array Value} (A : Arr t n z) (ho : o.op = .build t #[]) (hk : K (a.put o.dst (.agg z))) : o.quiet Tryz.prog a C K := by
  refine ⟨.agg z, fun W hC => ?_, hk⟩
  unfold Oper.quietAt execOp
  simp only [ho, List.map_toArray, List.map_nil, A.build, Sem.run_bind, Result.andThen_ok, Sem.run_pure]
  exact ⟨rfl, rfl⟩
theorem quiet_build1 {C : World → Prop} {a : Act} {o : Oper} {K : Act → Prop} {t : TypeId} (x : Operand) (ho : o.op = .build t #[(0, x)]) (X : Int) (c : Array Value) (hr : ∀ W, (Instr.build t #[(0, .int .u64 X)]).run Tryz.prog W = .ok (.agg c) W) (hx : a.eval x = .int .u64 X) (hk : K (a.put o.dst (.agg c))) : o.quiet Tryz.prog a C K := by
  refine ⟨.agg c, fun W hC => ?_, hk⟩
  unfold Oper.quietAt execOp
  simp only [ho, List.map_toArray, List.map_cons, List.map_nil, hx, hr W, Sem.run_bind, Result.andThen_ok, Sem.run_pure]
  exact ⟨rfl, rfl⟩
/-- Arrays held against each other by '!=', as an operation of a quiet walk. -/
theorem quiet_neqW {C : World → Prop} {a : Act} {o : Oper} {K : Act → Prop} (t : TypeId) (x y : Operand) (t2 : TypeId) (ho : o.op = .binOp .neq t x y t2) (c d : Array Value) (hx : a.eval x = .agg c) (hy : a.eval y = .agg d) (hg : Tryz.prog.eqGuardType Tryz.prog.depth t = false)
    (v : Bool) (hr : ∀ W, (Op.equalIn 10000 t (.agg c) (.agg d)).run Tryz.prog W = .ok v W) (hk : K (a.put o.dst (.bool !v))) : o.quiet Tryz.prog a C K := by
  refine ⟨.bool !v, fun W _ => ?_, hk⟩
  unfold Oper.quietAt execOp
  simp only [ho, hx, hy, Sem.run_bind, run_eqGuard_agg (P := Tryz.prog) W .neq t x y c d hg, run_neq_struct, hr W, Result.andThen_ok, Sem.run_pure]
  exact ⟨rfl, rfl⟩
def ldW (x : Value) : Sem Value := Instr.loadAt 209 x
theorem ldW_eq (x : Value) : Instr.loadAt 209 x = ldW x := rfl
def svW (x y : Value) : Sem Unit := Instr.storeAt 209 x y
theorem svW_eq (x y : Value) : Instr.storeAt 209 x y = svW x y := rfl
def ldR (x : Value) : Sem Value := Instr.loadAt 208 x
theorem ldR_eq (x : Value) : Instr.loadAt 208 x = ldR x := rfl
def svR (x y : Value) : Sem Unit := Instr.storeAt 208 x y
theorem svR_eq (x y : Value) : Instr.storeAt 208 x y = svR x y := rfl
theorem ldW_row {W : World} {g n : Nat} {t' : TypeId} (h : W.heap[g]? = some (.cells (wn n) t' (0, 0))) : (ldW (.pointer (some ⟨g, 0, none⟩))).run Tryz.prog W = .ok (.agg (wn n)) W := ld_row AW (wn_size n) h
theorem ldR_row {W : World} {g n : Nat} {t' : TypeId} (h : W.heap[g]? = some (.cells (wn n) t' (0, 0))) : (ldR (.pointer (some ⟨g, 0, none⟩))).run Tryz.prog W = .ok (.agg (wn n)) W := ld_row AR (wn_size n) h
theorem svW_row {w : World} {g m : Nat} {t : TypeId} (hg : w.heap[g]? = some (.cells (wn m) t (0, 0))) (n : Nat) : (svW (.pointer (some ⟨g, 0, none⟩)) (.agg (wn n))).run Tryz.prog w = .ok () (w.setRow g (wn n)) := by
  unfold svW
  simp only [Instr.storeAt, Instr.sureAddr, Sem.run_bind, Sem.run_pure, Result.andThen_ok]
  rw [run_storeVar_row w g t 209 (wn m) (wn n) hg AW.info (by rw [wn_size, wn_size]) (wn_one _)]
theorem svR_row {w : World} {g m : Nat} {t : TypeId} (hg : w.heap[g]? = some (.cells (wn m) t (0, 0))) (n : Nat) : (svR (.pointer (some ⟨g, 0, none⟩)) (.agg (wn n))).run Tryz.prog w = .ok () (w.setRow g (wn n)) := by
  unfold svR
  simp only [Instr.storeAt, Instr.sureAddr, Sem.run_bind, Sem.run_pure, Result.andThen_ok]
  rw [run_storeVar_row w g t 208 (wn m) (wn n) hg AR.info (by rw [wn_size, wn_size]) (wn_one _)]
theorem ref_carry (a b c : Nat) (ha : a < 18446744073709551616) (hb : b < 18446744073709551616) (hc : c ≤ 1) : IntKind.u64.wrap (IntKind.u64.wrap ((a : Int) + c) + b) = (((a + b + c) % 18446744073709551616 : Nat) : Int) ∧ (IntKind.u64.wrap ((a : Int) + c) < a → (a + b + c) / 18446744073709551616 = 1) ∧ (¬ IntKind.u64.wrap ((a : Int) + c) < a → IntKind.u64.wrap (IntKind.u64.wrap ((a : Int) + c) + b) < IntKind.u64.wrap ((a : Int) + c) → (a + b + c) / 18446744073709551616 = 1) ∧ (¬ IntKind.u64.wrap ((a : Int) + c) < a → ¬ IntKind.u64.wrap (IntKind.u64.wrap ((a : Int) + c) + b) < IntKind.u64.wrap ((a : Int) + c) → (a + b + c) / 18446744073709551616 = 0) := by
  simp only [IntKind.wrap_u64]
  refine ⟨by omega, by omega, by omega, by omega⟩
section
set_option maxRecDepth 10000
set_option maxHeartbeats 2000000
end
end Go.Proofs.YtpffaaalncdjcaaGreatDoor
namespace Go.Proofs.YtpffaaalncdjcaaGreatDoor
open Go.RowKit
open Go.Deep
theorem Ad.next {w W W' : World} {t : TypeId} {m n : Nat} {f : Nat → Nat} (j : Ad w W t m n f) (h : Below W.heap.size W W') : Ad w W' t m n f :=
  ⟨j.a.below h, j.b.below h, (h.block _ (lt_heap j.r)).trans j.r, j.o.below h, below_next j.bel h⟩
theorem Ad.alloc {w W : World} {t : TypeId} {m n : Nat} {f : Nat → Nat} (j : Ad w W t m n f) (o : Obj) : Ad w (W.alloc o) t m n f := j.next ((Below.refl _ _).alloc (Nat.le_refl _) _)
theorem Ad.ne {w W : World} {t : TypeId} {m n : Nat} {f : Nat → Nat} (j : Ad w W t m n f) : w.heap.size + 1 + 1 + 1 < W.heap.size := j.o.lt
/-- Behind the two stores of an answer. -/
theorem two_rows {w W : World} {t : TypeId} {m n : Nat} {f : Nat → Nat} (j : Ad w W t m n f) (c d : Array Value) : ((W.setRow (w.heap.size + 1 + 1) c).setRow (w.heap.size + 1 + 1 + 1) d).heap[w.heap.size + 1 + 1]? = some (.cells c t (0, 0)) ∧ ((W.setRow (w.heap.size + 1 + 1) c).setRow (w.heap.size + 1 + 1 + 1) d).heap[w.heap.size + 1 + 1 + 1]? = some (.cells d t (0, 0)) ∧ Below w.heap.size w ((W.setRow (w.heap.size + 1 + 1) c).setRow (w.heap.size + 1 + 1 + 1) d) := by
  refine ⟨(setRow_other _ _ _ _ (by omega)).trans (setRow_heap _ _ _ _ _ _ j.r), setRow_heap _ _ _ _ _ _ ((setRow_other _ _ _ _ (by omega)).trans j.o.heap), below_setRow (below_setRow j.bel (by omega) _) (by omega) _⟩
attribute [local go_sem ↓] ldW_eq svW_eq
section
set_option maxRecDepth 10000
set_option maxHeartbeats 2000000
end
end Go.Proofs.YtpffaaalncdjcaaGreatDoor
namespace Go.Proofs.YtpffaaalncdjcaaGreatDoor
open Go.RowKit
open Go.Deep
theorem two_more {W : World} (A B : Obj) : ((W.alloc A).alloc B).heap[W.heap.size]? = some A ∧ ((W.alloc A).alloc B).heap[W.heap.size + 1]? = some B := blk2x W A B
theorem blk2s (w : World) (A B : Obj) (c : Array Value) : (((w.alloc A).alloc B).setRow w.heap.size c).heap[(w.alloc A).heap.size]? = some B := by
  have e : (w.alloc A).heap.size = w.heap.size + 1 := by simp
  rw [e]
  exact (setRow_other _ _ _ _ (by omega)).trans (blk2x w A B).2
/-- Two rows that were made and written. -/
theorem blk2w (w : World) (t : TypeId) (z c d : Array Value) : ((((w.alloc (.cells z t)).alloc (.cells z t)).setRow w.heap.size c).setRow (w.heap.size + 1) d).heap[w.heap.size]? = some (.cells c t (0, 0)) ∧ ((((w.alloc (.cells z t)).alloc (.cells z t)).setRow w.heap.size c).setRow (w.heap.size + 1) d).heap[w.heap.size + 1]? = some (.cells d t (0, 0)) ∧ Below w.heap.size w ((((w.alloc (.cells z t)).alloc (.cells z t)).setRow w.heap.size c).setRow (w.heap.size + 1) d) :=
  ⟨(setRow_other _ _ _ _ (by omega)).trans (setRow_heap _ _ _ _ _ _ (blk2x w _ _).1), setRow_heap _ _ _ _ _ _ ((setRow_other _ _ _ _ (by omega)).trans (blk2x w _ _).2), below_setRow (below_setRow (below2x w _ _) (Nat.le_refl _) _) (by omega) _⟩
theorem wd_four {m : Nat} : wn m = nc 4 (wd m) := rfl
/-- Numbers in a slice. -/
def Wds (w : World) (ao : Option Addr) (n : Nat) (id : Nat → Nat) : Prop := ∀ i, i < n → id i < M ∧ ∃ g off, ao = some ⟨g, off, none⟩ ∧ g < w.heap.size ∧ w.rangeAt g (off + i * 4) (wn (id i)).toList
theorem range_below {w W : World} {B g off : Nat} {cs : List Value} (hr : w.rangeAt g off cs) (hb : Below B w W) (hg : g < B) : W.rangeAt g off cs := fun j v hv => by
  have := hr j v hv
  rw [← this]
  exact hb.cell (p := ⟨g, off + j, none⟩) hg
section
set_option maxRecDepth 10000
set_option maxHeartbeats 2000000
end
end Go.Proofs.YtpffaaalncdjcaaGreatDoor
namespace Go.Proofs.YtpffaaalncdjcaaGreatDoor
open Go.RowKit
open Go.Deep
theorem div_word_step (m i : Nat) : m / 18446744073709551616 ^ i = 18446744073709551616 * (m / 18446744073709551616 ^ (i + 1)) + wd m i := by
  unfold wd dg
  rw [Nat.pow_succ, ← Nat.div_div_eq_div_mul]
  exact (Nat.div_add_mod _ _).symm
theorem cmp_eq {m n i : Nat} (h : m / 18446744073709551616 ^ (i + 1) = n / 18446744073709551616 ^ (i + 1)) (e : wd m i = wd n i) : m / 18446744073709551616 ^ i = n / 18446744073709551616 ^ i := by
  rw [div_word_step, div_word_step n, h, e]
theorem cmp_lt {m n i : Nat} (h : m / 18446744073709551616 ^ (i + 1) = n / 18446744073709551616 ^ (i + 1)) (e : wd m i < wd n i) : m < n := by
  have h1 := div_word_step m i
  have h2 := div_word_step n i
  rw [h] at h1
  rcases Nat.lt_or_ge m n with h' | h'
  · exact h'
  · have := Nat.div_le_div_right (c := 18446744073709551616 ^ i) h'
    omega
theorem not_word (m i : Nat) (hm : m < M) (hi : i < 4) : wd (M - 1 - m) i = 18446744073709551615 - wd m i := by
  have h1 := add_word (M - 1 - m) m i
  rw [show M - 1 - m + m = M - 1 by omega] at h1
  have hP : 0 < 18446744073709551616 ^ i := Nat.pow_pos (by decide)
  have hall : ∀ k, k ≤ 4 → (M - 1) % 18446744073709551616 ^ k = 18446744073709551616 ^ k - 1 := by
    intro k hk
    have hk : k = 0 ∨ k = 1 ∨ k = 2 ∨ k = 3 ∨ k = 4 := by omega
    rcases hk with rfl | rfl | rfl | rfl | rfl <;> decide
  have hw : wd (M - 1) i = 18446744073709551615 := by
    have hi' : i = 0 ∨ i = 1 ∨ i = 2 ∨ i = 3 := by omega
    rcases hi' with rfl | rfl | rfl | rfl <;> decide
  have hc : cy (M - 1 - m) m i = 0 := by
    unfold cy
    apply Nat.div_eq_of_lt
    have e := Nat.add_mod (M - 1 - m) m (18446744073709551616 ^ i)
    rw [show M - 1 - m + m = M - 1 by omega, hall i (by omega)] at e
    have a1 := Nat.mod_lt (M - 1 - m) hP
    have a2 := Nat.mod_lt m hP
    generalize (M - 1 - m) % 18446744073709551616 ^ i = a at *
    generalize m % 18446744073709551616 ^ i = b at *
    generalize 18446744073709551616 ^ i = P at *
    rcases Nat.lt_or_ge (a + b) P with h | h
    · exact h
    · rw [Nat.mod_eq_sub_mod h, Nat.mod_eq_of_lt (by omega)] at e
      omega
  rw [hc, hw] at h1
  have b1 := wd_lt (M - 1 - m) i
  have b2 := wd_lt m i
  omega
section
set_option maxRecDepth 10000
set_option maxHeartbeats 2000000
end
end Go.Proofs.YtpffaaalncdjcaaGreatDoor
namespace Go.Proofs.YtpffaaalncdjcaaGreatDoor
theorem word_pow (j : Nat) : 18446744073709551616 ^ j = 2 ^ (64 * j) := by
  rw [Nat.pow_mul]
theorem wd_bit (n j t : Nat) : (wd n j).testBit t = (decide (t < 64) && n.testBit (64 * j + t)) := by
  unfold wd dg
  rw [word_pow, show (18446744073709551616 : Nat) = 2 ^ 64 from rfl, Nat.testBit_mod_two_pow, Nat.testBit_div_two_pow]
  congr 2
  omega
theorem wd_bit_at (n i : Nat) : (wd n (i / 64)).testBit (i % 64) = n.testBit i := by
  rw [wd_bit, show 64 * (i / 64) + i % 64 = i by omega, decide_eq_true (by omega), Bool.true_and]
theorem word_ext {x y : Nat} (h : ∀ t, x.testBit t = y.testBit t) : x = y := Nat.eq_of_testBit_eq h
theorem pow_bit (p t : Nat) : (2 ^ p).testBit t = decide (p = t) := by rw [Nat.testBit_two_pow]
/-- A bit put to a number that has it not. -/
theorem or_bit (a r : Nat) (h : a.testBit r = false) : a ||| 2 ^ r = a + 2 ^ r := by
  have hp := Nat.two_pow_pos r
  have h0 : a / 2 ^ r % 2 = 0 := by
    rw [Nat.testBit_eq_decide_div_mod_eq] at h
    simp at h
    omega
  have e : a = 2 ^ (r + 1) * (a / 2 ^ r / 2) + a % 2 ^ r := by
    have h1 := Nat.div_add_mod a (2 ^ r)
    have h2 := Nat.div_add_mod (a / 2 ^ r) 2
    rw [h0, Nat.add_zero] at h2
    rw [Nat.pow_succ, Nat.mul_assoc, h2]
    exact h1.symm
  have hl := Nat.mod_lt a hp
  generalize a % 2 ^ r = l at *
  generalize a / 2 ^ r / 2 = q at *
  have e1 : 2 ^ (r + 1) * q + l = 2 ^ (r + 1) * q ||| l := Nat.two_pow_add_eq_or_of_lt (by rw [Nat.pow_succ]; omega) q
  have e2 : 2 ^ (r + 1) * q + (2 ^ r * 1 + l) = 2 ^ (r + 1) * q ||| (2 ^ r * 1 + l) := Nat.two_pow_add_eq_or_of_lt (by rw [Nat.pow_succ]; omega) q
  have e3 : 2 ^ r * 1 + l = 2 ^ r * 1 ||| l := Nat.two_pow_add_eq_or_of_lt hl 1
  rw [e3, Nat.mul_one] at e2
  rw [e, e1, Nat.or_assoc, Nat.or_comm l, ← e2, ← e1]
  rw [Nat.mul_one] at e3
  omega
/-- The words of a number with a bit more. -/
theorem wd_or (x p i : Nat) : wd (x ||| 2 ^ p) i = if i = p / 64 then wd x i ||| 2 ^ (p % 64) else wd x i := by
  split
  · rename_i h
    apply word_ext
    intro t
    rw [wd_bit, Nat.testBit_or, Nat.testBit_or, wd_bit, pow_bit, pow_bit]
    by_cases ht : t < 64
    · by_cases e : p = 64 * i + t
      · simp [ht, e, show (64 * i + t) % 64 = t by omega]
      · have e' : ¬ p % 64 = t := by omega
        simp [ht, e, e']
    · have e' : ¬ p % 64 = t := by omega
      simp [ht, e']
  · rename_i h
    apply word_ext
    intro t
    rw [wd_bit, Nat.testBit_or, wd_bit, pow_bit]
    by_cases ht : t < 64
    · have e' : ¬ p = 64 * i + t := by omega
      simp [e']
    · simp [ht]
theorem wd_put (x p : Nat) (h : x.testBit p = false) : wd x (p / 64) ||| 2 ^ (p % 64) = wd x (p / 64) + 2 ^ (p % 64) ∧ wd x (p / 64) + 2 ^ (p % 64) < 18446744073709551616 ∧ ∀ i, wd (x + 2 ^ p) i = if i = p / 64 then wd x (p / 64) + 2 ^ (p % 64) else wd x i := by
  have e := or_bit x p h
  have e1 : wd x (p / 64) ||| 2 ^ (p % 64) = wd x (p / 64) + 2 ^ (p % 64) := or_bit _ _ (by rw [wd_bit_at]; exact h)
  refine ⟨e1, ?_, fun i => ?_⟩
  · rw [← e1]
    exact Nat.or_lt_two_pow (wd_lt x _) (Nat.pow_lt_pow_right (by decide) (Nat.mod_lt _ (by decide)))
  · rw [← e, wd_or]
    split
    · rename_i hi
      rw [hi, e1]
    · rfl
theorem small_bit (x p q : Nat) (h : x < 2 ^ p) (hq : p ≤ q) : x.testBit q = false := Nat.testBit_lt_two_pow (Nat.lt_of_lt_of_le h (Nat.pow_le_pow_right (by decide) hq))
/-- Words of a number times a power of 2. -/
theorem up_word (m n i : Nat) : wd (m * 2 ^ n) i = if i < n / 64 then 0 else wd m (i - n / 64) * 2 ^ (n % 64) % 18446744073709551616 ||| (if n / 64 < i then wd m (i - n / 64 - 1) / 2 ^ (64 - n % 64) else 0) := by
  apply word_ext
  intro t
  rw [wd_bit, Nat.testBit_mul_two_pow]
  split
  · rename_i h
    have : ¬ n ≤ 64 * i + t ∨ ¬ t < 64 := by omega
    rcases this with h | h <;> simp [h]
  · rename_i h
    rw [Nat.testBit_or, show (18446744073709551616 : Nat) = 2 ^ 64 from rfl, Nat.testBit_mod_two_pow, Nat.testBit_mul_two_pow, wd_bit]
    by_cases ht : t < 64
    · by_cases hp : t < n % 64
      · by_cases hi : n / 64 < i
        · rw [if_pos hi, Nat.testBit_div_two_pow, wd_bit]
          have h1 : ¬ n % 64 ≤ t := by omega
          have h2 : n ≤ 64 * i + t := by omega
          have h3 : 64 - n % 64 + t < 64 := by omega
          have h4 : 64 * (i - n / 64 - 1) + (64 - n % 64 + t) = 64 * i + t - n := by omega
          simp [ht, h1, h2, h3, h4, Nat.add_comm t]
        · rw [if_neg hi]
          have h1 : ¬ n % 64 ≤ t := by omega
          have h2 : ¬ n ≤ 64 * i + t := by omega
          simp [h1, h2]
      · have h1 : n % 64 ≤ t := by omega
        have h2 : n ≤ 64 * i + t := by omega
        have h3 : t - n % 64 < 64 := by omega
        have h4 : 64 * (i - n / 64) + (t - n % 64) = 64 * i + t - n := by omega
        have h5 : (if n / 64 < i then wd m (i - n / 64 - 1) / 2 ^ (64 - n % 64) else 0).testBit t = false := by
          split
          · rw [Nat.testBit_div_two_pow, wd_bit]
            have : ¬ t + (64 - n % 64) < 64 := by omega
            simp [this, Nat.add_comm]
          · simp
        rw [h5]
        simp [ht, h1, h2, h3, h4]
    · have h5 : (if n / 64 < i then wd m (i - n / 64 - 1) / 2 ^ (64 - n % 64) else 0).testBit t = false := by
        split
        · rw [Nat.testBit_div_two_pow, wd_bit]
          have : ¬ t + (64 - n % 64) < 64 := by omega
          simp [this, Nat.add_comm]
        · simp
      rw [h5]
      simp [ht]
/-- Words of a number over a power of 2. -/
theorem down_word (m n i : Nat) : wd (m / 2 ^ n) i = wd m (i + n / 64) / 2 ^ (n % 64) ||| wd m (i + n / 64 + 1) * 2 ^ (64 - n % 64) % 18446744073709551616 := by
  apply word_ext
  intro t
  rw [wd_bit, Nat.testBit_div_two_pow, Nat.testBit_or, Nat.testBit_div_two_pow, wd_bit, show (18446744073709551616 : Nat) = 2 ^ 64 from rfl, Nat.testBit_mod_two_pow, Nat.testBit_mul_two_pow, wd_bit]
  by_cases ht : t < 64
  · by_cases hp : n % 64 + t < 64
    · have h1 : ¬ 64 - n % 64 ≤ t := by omega
      have h2 : 64 * (i + n / 64) + (n % 64 + t) = n + (64 * i + t) := by omega
      simp [ht, hp, h1, h2, Nat.add_comm t]
      congr 1
      omega
    · have h1 : 64 - n % 64 ≤ t := by omega
      have h2 : 64 * (i + n / 64 + 1) + (t - (64 - n % 64)) = n + (64 * i + t) := by omega
      have h3 : t - (64 - n % 64) < 64 := by omega
      simp [ht, hp, h1, h2, h3, Nat.add_comm t]
      congr 1
      omega
  · have h1 : ¬ n % 64 + t < 64 := by omega
    simp [ht, h1, Nat.add_comm t]
end Go.Proofs.YtpffaaalncdjcaaGreatDoor
namespace Go.Proofs.YtpffaaalncdjcaaGreatDoor
open Go.RowKit
open Go.Deep
theorem bit_word (n i : Nat) : (bits .and .u64 (((wd n (i / 64) : Nat) : Int) / 2 ^ (i % 64)) 1 == 1) = n.testBit i := by
  have e : ((wd n (i / 64) : Nat) : Int) / 2 ^ (i % 64) = ((wd n (i / 64) / 2 ^ (i % 64) : Nat) : Int) := by simp
  have hlt : wd n (i / 64) / 2 ^ (i % 64) < 18446744073709551616 := Nat.lt_of_le_of_lt (Nat.div_le_self _ _) (wd_lt _ _)
  have h := u64_and_nat (wd n (i / 64) / 2 ^ (i % 64)) 1 hlt (by decide)
  rw [Nat.and_one_is_mod] at h
  rw [e, show (1 : Int) = ((1 : Nat) : Int) from rfl, h, ← wd_bit_at n i, Nat.testBit_eq_decide_div_mod_eq]
  rw [Bool.eq_iff_iff]
  simp
  omega
section
set_option maxRecDepth 10000
set_option maxHeartbeats 2000000
end
end Go.Proofs.YtpffaaalncdjcaaGreatDoor
namespace Go.Proofs.YtpffaaalncdjcaaGreatDoor
open Go.RowKit
open Go.Deep
theorem wd_top (m i : Nat) (h : m < 18446744073709551616 ^ (i + 1)) : wd m i = m / 18446744073709551616 ^ i := by
  unfold wd dg
  apply Nat.mod_eq_of_lt
  rw [Nat.div_lt_iff_lt_mul (Nat.pow_pos (by decide)), ← Nat.pow_succ']
  exact h
theorem bits_word (m i : Nat) (h : m < 18446744073709551616 ^ (i + 1)) (h0 : wd m i ≠ 0) : bl m = i * 64 + bl (wd m i) := by
  rw [wd_top m i h] at h0 ⊢
  rw [word_pow] at *
  have : 2 ^ (64 * i) ≤ m := by
    rcases Nat.lt_or_ge m (2 ^ (64 * i)) with h' | h'
    · exact absurd (Nat.div_eq_of_lt h') h0
    · exact h'
  rw [bl_shift m (64 * i) this, Nat.mul_comm]
theorem bits_less (m i : Nat) (h : m < 18446744073709551616 ^ (i + 1)) (h0 : wd m i = 0) : m < 18446744073709551616 ^ i := by
  rw [wd_top m i h] at h0
  exact (Nat.div_eq_zero_iff_lt (Nat.pow_pos (by decide))).1 h0
theorem bit_top (m n : Nat) (h : m < 2 ^ (n + 1)) : (m.testBit n = true → bl m = n + 1) ∧ (m.testBit n = false → m < 2 ^ n) := by
  have hp := Nat.two_pow_pos n
  rw [Nat.testBit_eq_decide_div_mod_eq]
  have hd : m / 2 ^ n < 2 := by
    rw [Nat.div_lt_iff_lt_mul hp, ← Nat.pow_succ']
    exact h
  constructor
  · intro e
    have e' : m / 2 ^ n % 2 = 1 := by simpa using e
    refine bl_unique m n ?_ h
    rcases Nat.lt_or_ge m (2 ^ n) with h' | h'
    · rw [Nat.div_eq_of_lt h'] at e'
      omega
    · exact h'
  · intro e
    have e' : ¬ m / 2 ^ n % 2 = 1 := by simpa using e
    refine (Nat.div_eq_zero_iff_lt hp).1 ?_
    generalize m / 2 ^ n = d at *
    omega
section
set_option maxRecDepth 10000
set_option maxHeartbeats 2000000
end
end Go.Proofs.YtpffaaalncdjcaaGreatDoor
