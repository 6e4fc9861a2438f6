/- Numbers of 256 bits: the mathematics of words and digits. Words of a number in blocks of memory; what the library's sums of words answer. The contracts of wide.Add, Sub, From, Zero, and the document's Add, Not, Compare, Sub. -/
import Derived.Test.YtdkemnjkhclbkaaDoorRows
import Derived.Test.YtdkemnjkhclbkaaDoorY08
import Derived.Laws.BitsAllLaws
import Derived.Laws.MathBits
import Derived.Laws.Externs
namespace Go.Proofs.YtdkemnjkhclbkaaDoor
/-- The digit i of a number to the base B. -/
def dg (B n i : Nat) : Nat := n / B ^ i % B
/-- The number of the first k digits. -/
def vs (B : Nat) (f : Nat → Nat) : Nat → Nat
  | 0 => 0
  | k + 1 => vs B f k + f k * B ^ k
theorem dg_lt {B : Nat} (h : 0 < B) (n i : Nat) : dg B n i < B := Nat.mod_lt _ h
theorem vs_congr (B : Nat) {f g : Nat → Nat} : ∀ {k : Nat}, (∀ i, i < k → f i = g i) → vs B f k = vs B g k
  | 0, _ => rfl
  | k + 1, h => by rw [vs, vs, vs_congr B (fun i hi => h i (by omega)), h k (by omega)]
theorem vs_lt {B : Nat} {f : Nat → Nat} : ∀ {k : Nat}, (∀ i, i < k → f i < B) → vs B f k < B ^ k
  | 0, _ => by simp [vs]
  | k + 1, h => by
    have h1 := vs_lt (k := k) (fun i hi => h i (by omega))
    have h2 : f k + 1 ≤ B := h k (by omega)
    have h3 : (f k + 1) * B ^ k ≤ B * B ^ k := Nat.mul_le_mul_right _ h2
    rw [vs, Nat.pow_succ, Nat.mul_comm (B ^ k) B]
    rw [Nat.add_mul, Nat.one_mul] at h3
    omega
theorem dg_vs {B : Nat} {f : Nat → Nat} : ∀ {k : Nat}, (∀ i, i < k → f i < B) → ∀ i, i < k → dg B (vs B f k) i = f i
  | 0, _, i, hi => by omega
  | k + 1, h, i, hi => by
    have hB : 0 < B := Nat.lt_of_le_of_lt (Nat.zero_le _) (h i hi)
    rcases Nat.lt_or_ge i k with hk | hk
    · have ih := dg_vs (k := k) (fun i hi => h i (by omega)) i hk
      unfold dg at ih ⊢
      rw [vs, show B ^ k = B ^ i * (B * B ^ (k - i - 1)) by rw [← Nat.pow_succ', ← Nat.pow_add]; congr 1; omega, ← Nat.mul_assoc, Nat.mul_comm (f k), Nat.mul_assoc, Nat.add_mul_div_left _ _ (Nat.pow_pos hB), Nat.mul_comm (f k), Nat.mul_assoc, Nat.add_mul_mod_self_left]
      exact ih
    · have : i = k := by omega
      subst this
      have h1 := vs_lt (k := i) (fun j hj => h j (by omega))
      unfold dg
      rw [vs, Nat.add_mul_div_right _ _ (Nat.pow_pos hB), Nat.div_eq_of_lt h1, Nat.zero_add, Nat.mod_eq_of_lt (h i hi)]
theorem vs_dg (B n : Nat) : ∀ k, vs B (dg B n) k = n % B ^ k
  | 0 => by simp [vs, Nat.mod_one]
  | k + 1 => by rw [vs, vs_dg B n k, Nat.pow_succ, Nat.mod_mul, dg, Nat.mul_comm]
/-- The next digit of a remainder. -/
theorem mod_next (B n k : Nat) : n % B ^ (k + 1) = n % B ^ k + dg B n k * B ^ k := by
  rw [Nat.pow_succ, Nat.mod_mul, dg, Nat.mul_comm (B ^ k)]
theorem dg_mod (B n k i : Nat) (h : i < k) : dg B (n % B ^ k) i = dg B n i := by
  rcases Nat.eq_zero_or_pos B with hB | hB
  · subst hB
    rw [Nat.zero_pow (by omega), Nat.mod_zero]
  · rw [← vs_dg]
    exact dg_vs (fun j _ => dg_lt hB n j) i h
theorem dg_ext {B m n k : Nat} (hm : m < B ^ k) (hn : n < B ^ k) (h : ∀ i, i < k → dg B m i = dg B n i) : m = n := by
  have e1 := vs_dg B m k
  have e2 := vs_dg B n k
  rw [Nat.mod_eq_of_lt hm] at e1
  rw [Nat.mod_eq_of_lt hn] at e2
  rw [← e1, ← e2]
  exact vs_congr B h
theorem dg_zero (B i : Nat) : dg B 0 i = 0 := by simp [dg]
/-- Sums, digit by digit. -/
theorem add_digit (B m n i : Nat) (hB : 0 < B) : dg B (m + n) i = (dg B m i + dg B n i + (m % B ^ i + n % B ^ i) / B ^ i) % B := by
  unfold dg
  have hP : 0 < B ^ i := Nat.pow_pos hB
  generalize B ^ i = P at *
  have e : m + n = P * (m / P + n / P) + (m % P + n % P) := by
    have h1 := Nat.div_add_mod m P
    have h2 := Nat.div_add_mod n P
    rw [Nat.mul_add]
    omega
  rw [e, Nat.mul_add_div hP]
  rw [Nat.add_mod (_ + _) ((m % P + n % P) / P), Nat.add_mod (m / P) (n / P), ← Nat.add_mod]
theorem add_carry (B m n i : Nat) (hB : 0 < B) : (m % B ^ (i + 1) + n % B ^ (i + 1)) / B ^ (i + 1) = (dg B m i + dg B n i + (m % B ^ i + n % B ^ i) / B ^ i) / B := by
  rw [mod_next, mod_next]
  have hP : 0 < B ^ i := Nat.pow_pos hB
  rw [Nat.pow_succ, ← Nat.div_div_eq_div_mul]
  congr 1
  rw [show m % B ^ i + dg B m i * B ^ i + (n % B ^ i + dg B n i * B ^ i) = (m % B ^ i + n % B ^ i) + (dg B m i + dg B n i) * B ^ i by rw [Nat.add_mul]; omega, Nat.add_mul_div_right _ _ hP]
  omega
theorem carry_le (B m n i : Nat) (hB : 0 < B) : (m % B ^ i + n % B ^ i) / B ^ i ≤ 1 := by
  have hP : 0 < B ^ i := Nat.pow_pos hB
  have h1 := Nat.mod_lt m hP
  have h2 := Nat.mod_lt n hP
  have : (m % B ^ i + n % B ^ i) / B ^ i < 2 := by rw [Nat.div_lt_iff_lt_mul hP]; omega
  omega
/-- A product, digit by digit: a step of the inner loop. -/
theorem mul_step (B : Nat) (f f' g : Nat → Nat) (i k a b c s : Nat)
    (h : vs B f (i + k) + c * B ^ (i + k) = vs B g (i + k) + a * (b % B ^ k) * B ^ i)
    (hs : s = g (i + k) + a * dg B b k + c) (hf : ∀ j, j < i + k → f' j = f j) (hf2 : f' (i + k) = s % B) :
    vs B f' (i + (k + 1)) + s / B * B ^ (i + (k + 1)) = vs B g (i + (k + 1)) + a * (b % B ^ (k + 1)) * B ^ i := by
  have e1 : vs B f' (i + k) = vs B f (i + k) := vs_congr B hf
  rw [show i + (k + 1) = i + k + 1 by omega, vs, vs, e1, hf2, mod_next, Nat.pow_succ, Nat.pow_add] at *
  have e2 := Nat.div_add_mod s B
  have e3 : s % B * (B ^ i * B ^ k) + s / B * (B ^ i * B ^ k * B) = s * (B ^ i * B ^ k) := by
    conv => rhs; rw [← e2]
    rw [Nat.add_mul, Nat.mul_comm B (s / B), Nat.mul_assoc (s / B) B, Nat.mul_comm B, Nat.add_comm]
  have e4 : s * (B ^ i * B ^ k) = g (i + k) * (B ^ i * B ^ k) + a * dg B b k * (B ^ i * B ^ k) + c * (B ^ i * B ^ k) := by rw [hs, Nat.add_mul, Nat.add_mul]
  have e5 : a * (b % B ^ k + dg B b k * B ^ k) * B ^ i = a * (b % B ^ k) * B ^ i + a * dg B b k * (B ^ i * B ^ k) := by
    rw [Nat.mul_add, Nat.add_mul]
    congr 1
    rw [← Nat.mul_assoc a, Nat.mul_assoc _ (B ^ k), Nat.mul_comm (B ^ k)]
  rw [e5]
  omega
theorem mul_row (B : Nat) (f f' g : Nat → Nat) (i N a b c : Nat) (hb : b < B ^ N) (hg : vs B g (i + N) = a % B ^ i * b)
    (h : vs B f (i + N) + c * B ^ (i + N) = vs B g (i + N) + dg B a i * (b % B ^ N) * B ^ i) (hf : ∀ j, j < i + N → f' j = f j) (hf2 : f' (i + N) = c) :
    vs B f' (i + 1 + N) = a % B ^ (i + 1) * b := by
  have e1 : vs B f' (i + N) = vs B f (i + N) := vs_congr B hf
  rw [show i + 1 + N = i + N + 1 by omega, vs, e1, hf2, h, hg, mod_next, Nat.mod_eq_of_lt hb, Nat.add_mul]
  congr 1
  rw [Nat.mul_assoc, Nat.mul_comm b, ← Nat.mul_assoc]
/-- How many bits a number has. -/
def bl (n : Nat) : Nat := if n = 0 then 0 else n.log2 + 1
theorem bl_lt (n : Nat) : n < 2 ^ bl n := by
  unfold bl
  split
  · subst n; decide
  · exact Nat.lt_log2_self
theorem bl_le (n : Nat) (h : 0 < n) : 2 ^ (bl n - 1) ≤ n := by
  unfold bl
  rw [if_neg (by omega)]
  simpa using Nat.log2_self_le (by omega)
theorem bl_zero : bl 0 = 0 := rfl
theorem bl_pos (n : Nat) (h : 0 < n) : 0 < bl n := by
  unfold bl
  rw [if_neg (by omega)]
  omega
theorem bl_unique (n k : Nat) (h1 : 2 ^ k ≤ n) (h2 : n < 2 ^ (k + 1)) : bl n = k + 1 := by
  have h0 := Nat.two_pow_pos k
  have a1 := bl_lt n
  have a2 := bl_le n (by omega)
  have a3 := bl_pos n (by omega)
  have b1 : k < bl n := (Nat.pow_lt_pow_iff_right (a := 2) (by decide)).1 (Nat.lt_of_le_of_lt h1 a1)
  have b2 : bl n - 1 < k + 1 := (Nat.pow_lt_pow_iff_right (a := 2) (by decide)).1 (Nat.lt_of_le_of_lt a2 h2)
  omega
theorem bl_le_of (n k : Nat) (h : n < 2 ^ k) : bl n ≤ k := by
  rcases Nat.eq_zero_or_pos n with h0 | h0
  · subst h0; simp [bl_zero]
  · have a2 := bl_le n h0
    have b2 : bl n - 1 < k := (Nat.pow_lt_pow_iff_right (a := 2) (by decide)).1 (Nat.lt_of_le_of_lt a2 h)
    omega
theorem bl_shift (n k : Nat) (h : 2 ^ k ≤ n) : bl n = k + bl (n / 2 ^ k) := by
  have h0 := Nat.two_pow_pos k
  have hq : 0 < n / 2 ^ k := Nat.div_pos h h0
  have a1 := bl_lt (n / 2 ^ k)
  have a2 := bl_le (n / 2 ^ k) hq
  have a3 := bl_pos (n / 2 ^ k) hq
  generalize bl (n / 2 ^ k) = m at *
  obtain ⟨m, rfl⟩ : ∃ m', m = m' + 1 := ⟨m - 1, by omega⟩
  rw [Nat.add_sub_cancel] at a2
  have e := bl_unique n (k + m) (by
    rw [Nat.pow_add, Nat.mul_comm]
    exact (Nat.le_div_iff_mul_le h0).1 a2) (by
    rw [Nat.add_assoc, Nat.pow_add, Nat.mul_comm]
    exact (Nat.div_lt_iff_lt_mul h0).1 a1)
  omega
end Go.Proofs.YtdkemnjkhclbkaaDoor
namespace Go.Proofs.YtdkemnjkhclbkaaDoor
open Go.RowKit
open Go.Deep
/-- Words as cells. -/
def nc (k : Nat) (f : Nat → Nat) : Array Value := ((List.range k).map fun i => Value.int .u64 ((f i : Nat) : Int)).toArray
theorem nc_size (k : Nat) (f : Nat → Nat) : (nc k f).size = k := by simp [nc]
theorem nc_one (k : Nat) (f : Nat → Nat) : (nc k f).all (·.oneCell') = true := by
  rw [Array.all_eq_true_iff_forall_mem]
  intro v hv
  simp only [nc, List.mem_toArray, List.mem_map] at hv
  obtain ⟨b, _, rfl⟩ := hv
  rfl
theorem nc_at (k : Nat) (f : Nat → Nat) (i : Nat) (hi : i < k) : (nc k f)[i]? = some (.int .u64 ((f i : Nat) : Int)) := by
  simp [nc, hi]
theorem nc_congr {k : Nat} {f g : Nat → Nat} (h : ∀ i, i < k → f i = g i) : nc k f = nc k g := by
  unfold nc
  congr 1
  apply List.map_congr_left
  intro i hi
  rw [h i (by simpa using hi)]
/-- The word i of a number. -/
def wd (n i : Nat) : Nat := dg 18446744073709551616 n i
theorem wd_lt (n i : Nat) : wd n i < 18446744073709551616 := dg_lt (by decide) n i
/-- The cells of a number. -/
def wn (n : Nat) : Array Value := nc 4 (wd n)
theorem wn_size (n : Nat) : (wn n).size = 4 := nc_size 4 _
theorem wn_one (n : Nat) : (wn n).all (·.oneCell') = true := nc_one 4 _
theorem AW : Arr 131 4 (wn 0) := ⟨.inl ⟨_, _, Tryd.underlying131⟩, by kernel_rfl, fun w => by kernel_rfl, fun w => by kernel_rfl, wn_size 0⟩
theorem AR : Arr 130 4 (wn 0) := ⟨.inl ⟨_, _, Tryd.underlying130⟩, by kernel_rfl, fun w => by kernel_rfl, fun w => by kernel_rfl, wn_size 0⟩
/-- The greatest number, and one. -/
def M : Nat := 115792089237316195423570985008687907853269984665640564039457584007913129639936
theorem M_eq : M = 18446744073709551616 ^ 4 := by decide
theorem M_pow : M = 2 ^ 256 := by decide
theorem M_pos : 0 < M := by decide
theorem wd_mod (n i : Nat) (h : i < 4) : wd (n % M) i = wd n i := by rw [M_eq]; exact dg_mod _ _ _ _ h
theorem wn_mod (n : Nat) : wn (n % M) = wn n := nc_congr fun i hi => wd_mod n i hi
/-- The number of words. -/
def vn (f : Nat → Nat) : Nat := vs 18446744073709551616 f 4
theorem vn_lt {f : Nat → Nat} (h : ∀ i, i < 4 → f i < 18446744073709551616) : vn f < M := by rw [M_eq]; exact vs_lt h
theorem wn_vn {f : Nat → Nat} (h : ∀ i, i < 4 → f i < 18446744073709551616) : wn (vn f) = nc 4 f := nc_congr fun i hi => dg_vs h i hi
theorem wd_ext {m n : Nat} (hm : m < M) (hn : n < M) (h : ∀ i, i < 4 → wd m i = wd n i) : m = n := by
  rw [M_eq] at hm hn
  exact dg_ext hm hn h
/-- Words at block g. -/
def Nd (W : World) (g : Nat) (t : TypeId) (k : Nat) (f : Nat → Nat) : Prop := W.rowIs g t k (fun i => .int .u64 ((f i : Nat) : Int))
section
variable {W W' : World} {g : Nat} {t : TypeId} {k : Nat} {f : Nat → Nat}
theorem Nd.heap (h : Nd W g t k f) : W.heap[g]? = some (.cells (nc k f) t (0, 0)) := of_row (nc_size k f) h (fun i hi => nc_at k f i hi)
theorem Nd.of_heap (h : W.heap[g]? = some (.cells (nc k f) t (0, 0))) : Nd W g t k f := row_of (nc_size k f) h (fun i hi => nc_at k f i hi)
theorem Nd.lt (h : Nd W g t k f) : g < W.heap.size := World.rowIs.lt h
theorem Nd.of_block (h : Nd W g t k f) (e : W'.heap[g]? = W.heap[g]?) : Nd W' g t k f := World.rowIs.of_block h e
theorem Nd.fz (h : Nd W g t k f) (i : Nat) : W.frozen? ⟨g, i, none⟩ = false := World.rowIs.frozen h i
theorem Nd.cell (h : Nd W g t k f) {i : Nat} (hi : i < k) : W.cell? ⟨g, i, none⟩ = some (.int .u64 ((f i : Nat) : Int)) := World.rowIs.cell h hi
theorem Nd.set (h : Nd W g t k f) (i x : Nat) : Nd (W.setCell ⟨g, i, none⟩ (.int .u64 ((x : Nat) : Int))) g t k (fun j => if j = i then x else f j) := by
  refine (World.rowIs.set h i _).congr (fun j hj => ?_)
  by_cases e : j = i <;> simp [e]
theorem Nd.congr (h : Nd W g t k f) {f' : Nat → Nat} (e : ∀ i, i < k → f i = f' i) : Nd W g t k f' := World.rowIs.congr h (fun i hi => by rw [e i hi])
theorem Nd.other (h : Nd W g t k f) {b : Nat} (hb : b ≠ g) (i : Nat) (v : Value) : Nd (W.setCell ⟨b, i, none⟩ v) g t k f := h.of_block (Below.heap_setCell _ _ _ _ (Ne.symm hb))
theorem Nd.row (h : Nd W g t k f) {b : Nat} (hb : b ≠ g) (c : Array Value) : Nd (W.setRow b c) g t k f := h.of_block (setRow_other W b g c (Ne.symm hb))
theorem Nd.below (h : Nd W g t k f) (b : Below W.heap.size W W') : Nd W' g t k f := h.of_block (b.block _ h.lt)
theorem Nd.drew (h : Nd W g t k f) : Nd W.drew g t k f := h
end
theorem nd_alloc (w : World) (t : TypeId) (n : Nat) : Nd (w.alloc (.cells (wn n) t)) w.heap.size t 4 (wd n) := Nd.of_heap (heap_alloc_last w _)
section
variable {t : TypeId} {n : Nat} {z : Array Value}
theorem resA2 (A : Arr t n z) {fn : Func} {p u : Tmp} (hf : fn.results = #[.cell p t, .tmp u]) (tmps : Array Value) (w : World) (g : Nat) (t' : TypeId) (c : Array Value) (hn : c.size = n)
    (hp : tmps.getD p undef = .pointer (some ⟨g, 0, none⟩)) (hg : w.heap[g]? = some (.cells c t' (0, 0))) (x : Value) (hx : tmps.getD u undef = x) : (results fn tmps).run Tryd.prog w = .ok (.tuple #[.agg c, x]) w := by
  subst hx
  have hp' : tmps[p]?.getD undef = .pointer (some ⟨g, 0, none⟩) := by simpa using hp
  rcases A.und with ⟨m, e, hd⟩ | ⟨fs, hd⟩ <;> simp [results, hf, hp', asAddr, run_loadVar_row w g t' t c (0, 0) _ hg hd rfl (by rw [A.info, hn])]
theorem resA3 (A : Arr t n z) {fn : Func} {p u v : Tmp} (hf : fn.results = #[.cell p t, .tmp u, .tmp v]) (tmps : Array Value) (w : World) (g : Nat) (t' : TypeId) (c : Array Value) (hn : c.size = n)
    (hp : tmps.getD p undef = .pointer (some ⟨g, 0, none⟩)) (hg : w.heap[g]? = some (.cells c t' (0, 0))) (x : Value) (hx : tmps.getD u undef = x) (y : Value) (hy : tmps.getD v undef = y) : (results fn tmps).run Tryd.prog w = .ok (.tuple #[.agg c, x, y]) w := by
  subst hx hy
  have hp' : tmps[p]?.getD undef = .pointer (some ⟨g, 0, none⟩) := by simpa using hp
  rcases A.und with ⟨m, e, hd⟩ | ⟨fs, hd⟩ <;> simp [results, hf, hp', asAddr, run_loadVar_row w g t' t c (0, 0) _ hg hd rfl (by rw [A.info, hn])]
theorem resAA (A : Arr t n z) {fn : Func} {p u : Tmp} (hf : fn.results = #[.cell p t, .cell u t]) (tmps : Array Value) (w : World) (g h : Nat) (t' : TypeId) (c d : Array Value) (hn : c.size = n) (hm : d.size = n)
    (hp : tmps.getD p undef = .pointer (some ⟨g, 0, none⟩)) (hg : w.heap[g]? = some (.cells c t' (0, 0))) (hu : tmps.getD u undef = .pointer (some ⟨h, 0, none⟩)) (hh : w.heap[h]? = some (.cells d t' (0, 0))) : (results fn tmps).run Tryd.prog w = .ok (.tuple #[.agg c, .agg d]) w := by
  have hp' : tmps[p]?.getD undef = .pointer (some ⟨g, 0, none⟩) := by simpa using hp
  have hu' : tmps[u]?.getD undef = .pointer (some ⟨h, 0, none⟩) := by simpa using hu
  rcases A.und with ⟨m, e, hd⟩ | ⟨fs, hd⟩ <;> simp [results, hf, hp', hu', asAddr, run_loadVar_row w g t' t c (0, 0) _ hg hd rfl (by rw [A.info, hn]), run_loadVar_row w h t' t d (0, 0) _ hh hd rfl (by rw [A.info, hm])]
theorem resAA3 (A : Arr t n z) {fn : Func} {p u v : Tmp} (hf : fn.results = #[.cell p t, .cell u t, .tmp v]) (tmps : Array Value) (w : World) (g h : Nat) (t' : TypeId) (c d : Array Value) (hn : c.size = n) (hm : d.size = n)
    (hp : tmps.getD p undef = .pointer (some ⟨g, 0, none⟩)) (hg : w.heap[g]? = some (.cells c t' (0, 0))) (hu : tmps.getD u undef = .pointer (some ⟨h, 0, none⟩)) (hh : w.heap[h]? = some (.cells d t' (0, 0))) (x : Value) (hx : tmps.getD v undef = x) : (results fn tmps).run Tryd.prog w = .ok (.tuple #[.agg c, .agg d, x]) w := by
  subst hx
  have hp' : tmps[p]?.getD undef = .pointer (some ⟨g, 0, none⟩) := by simpa using hp
  have hu' : tmps[u]?.getD undef = .pointer (some ⟨h, 0, none⟩) := by simpa using hu
  rcases A.und with ⟨m, e, hd⟩ | ⟨fs, hd⟩ <;> simp [results, hf, hp', hu', asAddr, run_loadVar_row w g t' t c (0, 0) _ hg hd rfl (by rw [A.info, hn]), run_loadVar_row w h t' t d (0, 0) _ hh hd rfl (by rw [A.info, hm])]
end
def sub64E : Array Value → Sem Value := fun args => do
  let (x, y, b) ← Extern.MathBitsCarry.three "Sub64" args
  pure (Extern.MathBitsCarry.pair ((x + Extern.MathBitsCarry.m64 - y - b) % Extern.MathBitsCarry.m64) (if x < y + b then 1 else 0))
/-- The library's difference of two words and a borrow. -/
theorem sub64_run (x y b : Nat) (hb : b ≤ 1) (w : World) : (callFunc 102 #[.int .u64 (x : Int), .int .u64 (y : Int), .int .u64 (b : Int)]).run Tryd.prog w =
    .ok (.value (.tuple #[.int .u64 (((x + 18446744073709551616 - y - b) % 18446744073709551616 : Nat) : Int), .int .u64 ((if x < y + b then 1 else 0 : Nat) : Int)])) w := by
  have e : (sub64E #[.int .u64 x, .int .u64 y, .int .u64 b]).run Tryd.prog w =
      .ok (.tuple #[.int .u64 (((x + 18446744073709551616 - y - b) % 18446744073709551616 : Nat) : Int), .int .u64 ((if x < y + b then 1 else 0 : Nat) : Int)]) w := by
    have : b = 0 ∨ b = 1 := by omega
    rcases this with rfl | rfl <;> rfl
  rw [run_callFunc_extern Tryd.func102 (by kernel_rfl) (by kernel_rfl) (by kernel_rfl) (e := sub64E) (by kernel_rfl), e]
  rfl
end Go.Proofs.YtdkemnjkhclbkaaDoor
namespace Go.Proofs.YtdkemnjkhclbkaaDoor
open Go.RowKit
open Go.Deep
/-- The carry behind i words. -/
def cy (m n i : Nat) : Nat := (m % 18446744073709551616 ^ i + n % 18446744073709551616 ^ i) / 18446744073709551616 ^ i
theorem cy_zero (m n : Nat) : cy m n 0 = 0 := by simp [cy, Nat.mod_one]
theorem cy_le (m n i : Nat) : cy m n i ≤ 1 := carry_le _ m n i (by decide)
theorem add_word (m n i : Nat) : (wd m i + wd n i + cy m n i) % 18446744073709551616 = wd (m + n) i := (add_digit _ m n i (by decide)).symm
theorem cy_step (m n i : Nat) : (wd m i + wd n i + cy m n i) / 18446744073709551616 = cy m n (i + 1) := (add_carry _ m n i (by decide)).symm
theorem blk2x (w : World) (A B : Obj) : ((w.alloc A).alloc B).heap[w.heap.size]? = some A ∧ ((w.alloc A).alloc B).heap[w.heap.size + 1]? = some B := by
  have e1 := heap_alloc_last w A
  have e2 := heap_alloc_last (w.alloc A) B
  have s1 : (w.alloc A).heap.size = w.heap.size + 1 := by simp
  rw [s1] at e2
  exact ⟨(Below.heap_alloc _ B _ (by omega)).trans e1, e2⟩
theorem below2x (w : World) (A B : Obj) : Below w.heap.size w ((w.alloc A).alloc B) :=
  ((Below.refl _ _).alloc (Nat.le_refl _) _).alloc (by simp) _
theorem blk4 (w : World) (A B C D : Obj) : ((((w.alloc A).alloc B).alloc C).alloc D).heap[w.heap.size]? = some A ∧ ((((w.alloc A).alloc B).alloc C).alloc D).heap[w.heap.size + 1]? = some B ∧ ((((w.alloc A).alloc B).alloc C).alloc D).heap[w.heap.size + 1 + 1]? = some C ∧ ((((w.alloc A).alloc B).alloc C).alloc D).heap[w.heap.size + 1 + 1 + 1]? = some D := by
  obtain ⟨e1, e2, e3⟩ := blk3 w A B C
  have e4 := heap_alloc_last (((w.alloc A).alloc B).alloc C) D
  have s3 : (((w.alloc A).alloc B).alloc C).heap.size = w.heap.size + 1 + 1 + 1 := by simp
  rw [s3] at e4
  exact ⟨(Below.heap_alloc _ D _ (by omega)).trans e1, (Below.heap_alloc _ D _ (by omega)).trans e2, (Below.heap_alloc _ D _ (by omega)).trans e3, e4⟩
theorem below4 (w : World) (A B C D : Obj) : Below w.heap.size w ((((w.alloc A).alloc B).alloc C).alloc D) :=
  ((((Below.refl _ _).alloc (Nat.le_refl _) _).alloc (by simp) _).alloc (by simp; omega) _).alloc (by simp; omega) _
/-- Two numbers, an answer's place and a fourth row. -/
structure Ad (w W : World) (t : TypeId) (m n : Nat) (f : Nat → Nat) : Prop where
  a : Nd W w.heap.size t 4 (wd m)
  b : Nd W (w.heap.size + 1) t 4 (wd n)
  r : W.heap[w.heap.size + 1 + 1]? = some (.cells (wn 0) t (0, 0))
  o : Nd W (w.heap.size + 1 + 1 + 1) t 4 f
  bel : Below w.heap.size w W
theorem Ad.start (w : World) (t : TypeId) (m n : Nat) : Ad w ((((w.alloc (.cells (wn m) t)).alloc (.cells (wn n) t)).alloc (.cells (wn 0) t)).alloc (.cells (wn 0) t)) t m n (wd 0) := by
  obtain ⟨e1, e2, e3, e4⟩ := blk4 w (.cells (wn m) t) (.cells (wn n) t) (.cells (wn 0) t) (.cells (wn 0) t)
  exact ⟨Nd.of_heap e1, Nd.of_heap e2, e3, Nd.of_heap e4, below4 w _ _ _ _⟩
theorem Ad.set {w W : World} {t : TypeId} {m n : Nat} {f : Nat → Nat} (j : Ad w W t m n f) (i x : Nat) : Ad w (W.setCell ⟨w.heap.size + 1 + 1 + 1, i, none⟩ (.int .u64 ((x : Nat) : Int))) t m n (fun k => if k = i then x else f k) :=
  ⟨j.a.other (by omega) _ _, j.b.other (by omega) _ _, (Below.heap_setCell _ _ _ _ (by simp)).trans j.r, j.o.set i x, j.bel.setCell (by simp; omega) _⟩
theorem Ad.drew {w W : World} {t : TypeId} {m n : Nat} {f : Nat → Nat} (j : Ad w W t m n f) : Ad w W.drew t m n f := ⟨j.a, j.b, j.r, j.o, j.bel.drew⟩
theorem Ad.congr {w W : World} {t : TypeId} {m n : Nat} {f f' : Nat → Nat} (j : Ad w W t m n f) (e : ∀ i, i < 4 → f i = f' i) : Ad w W t m n f' := ⟨j.a, j.b, j.r, j.o.congr e, j.bel⟩
/-- The first i words of a number, zeros behind. -/
def wf (N i j : Nat) : Nat := if j < i then wd N j else 0
theorem wf_zero (N j : Nat) : wd 0 j = wf N 0 j := by simp [wf, wd, dg_zero]
theorem wf_step (N i j : Nat) : (if j = i then wd N i else wf N i j) = wf N (i + 1) j := by
  unfold wf
  by_cases e : j = i
  · rw [if_pos e, if_pos (by omega), e]
  · rw [if_neg e]
    by_cases e2 : j < i
    · rw [if_pos e2, if_pos (by omega)]
    · rw [if_neg e2, if_neg (by omega)]
theorem wf_four (N j : Nat) (h : j < 4) : wf N 4 j = wd N j := by rw [wf, if_pos h]
theorem cy_end (m n : Nat) (hm : m < M) (hn : n < M) : cy m n 4 = if M ≤ m + n then 1 else 0 := by
  unfold cy
  rw [← M_eq, Nat.mod_eq_of_lt hm, Nat.mod_eq_of_lt hn]
  have := M_pos
  split
  · rename_i h
    rw [Nat.div_eq_sub_div this h, Nat.div_eq_of_lt (by omega)]
  · rename_i h
    rw [Nat.div_eq_of_lt (by omega)]
section
set_option maxRecDepth 10000
set_option maxHeartbeats 1000000
end
end Go.Proofs.YtdkemnjkhclbkaaDoor
