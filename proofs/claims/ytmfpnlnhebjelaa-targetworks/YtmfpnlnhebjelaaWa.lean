/- Words of a number in blocks of memory; what the library's sums of words answer. -/
import Derived.Test.YtmfpnlnhebjelaaB0
import Derived.Test.YtmfpnlnhebjelaaWm
import Derived.Laws.BitsAllLaws
import Derived.Laws.MathBits
import Derived.Laws.Externs
namespace Go.Proofs.Ytmfpnlnhebjelaa
open Go.RowKit
open Go.Deep
/-- Words as cells. -/
def nc (k : Nat) (f : Nat → Nat) : Array Value := ((List.range k).map fun i => Value.int .u64 ((f i : Nat) : Int)).toArray
theorem nc_size (k : Nat) (f : Nat → Nat) : (nc k f).size = k := by simp [nc]
theorem nc_one (k : Nat) (f : Nat → Nat) : (nc k f).all (·.oneCell') = true := by
  rw [Array.all_eq_true_iff_forall_mem]
  intro v hv
  simp only [nc, List.mem_toArray, List.mem_map] at hv
  obtain ⟨b, _, rfl⟩ := hv
  rfl
theorem nc_at (k : Nat) (f : Nat → Nat) (i : Nat) (hi : i < k) : (nc k f)[i]? = some (.int .u64 ((f i : Nat) : Int)) := by
  simp [nc, hi]
theorem nc_congr {k : Nat} {f g : Nat → Nat} (h : ∀ i, i < k → f i = g i) : nc k f = nc k g := by
  unfold nc
  congr 1
  apply List.map_congr_left
  intro i hi
  rw [h i (by simpa using hi)]
/-- The word i of a number. -/
def wd (n i : Nat) : Nat := dg 18446744073709551616 n i
theorem wd_lt (n i : Nat) : wd n i < 18446744073709551616 := dg_lt (by decide) n i
/-- The cells of a number. -/
def wn (n : Nat) : Array Value := nc 4 (wd n)
theorem wn_size (n : Nat) : (wn n).size = 4 := nc_size 4 _
theorem wn_one (n : Nat) : (wn n).all (·.oneCell') = true := nc_one 4 _
theorem AW : Arr 24 4 (wn 0) := ⟨.inl ⟨_, _, Try.underlying24⟩, by kernel_rfl, fun w => by kernel_rfl, fun w => by kernel_rfl, wn_size 0⟩
theorem AR : Arr 23 4 (wn 0) := ⟨.inl ⟨_, _, Try.underlying23⟩, by kernel_rfl, fun w => by kernel_rfl, fun w => by kernel_rfl, wn_size 0⟩
/-- The greatest number, and one. -/
def M : Nat := 115792089237316195423570985008687907853269984665640564039457584007913129639936
theorem M_eq : M = 18446744073709551616 ^ 4 := by decide
theorem M_pow : M = 2 ^ 256 := by decide
theorem M_pos : 0 < M := by decide
theorem wd_mod (n i : Nat) (h : i < 4) : wd (n % M) i = wd n i := by rw [M_eq]; exact dg_mod _ _ _ _ h
theorem wn_mod (n : Nat) : wn (n % M) = wn n := nc_congr fun i hi => wd_mod n i hi
/-- The number of words. -/
def vn (f : Nat → Nat) : Nat := vs 18446744073709551616 f 4
theorem vn_lt {f : Nat → Nat} (h : ∀ i, i < 4 → f i < 18446744073709551616) : vn f < M := by rw [M_eq]; exact vs_lt h
theorem wn_vn {f : Nat → Nat} (h : ∀ i, i < 4 → f i < 18446744073709551616) : wn (vn f) = nc 4 f := nc_congr fun i hi => dg_vs h i hi
theorem wd_ext {m n : Nat} (hm : m < M) (hn : n < M) (h : ∀ i, i < 4 → wd m i = wd n i) : m = n := by
  rw [M_eq] at hm hn
  exact dg_ext hm hn h
/-- Words at block g. -/
def Nd (W : World) (g : Nat) (t : TypeId) (k : Nat) (f : Nat → Nat) : Prop := W.rowIs g t k (fun i => .int .u64 ((f i : Nat) : Int))
section
variable {W W' : World} {g : Nat} {t : TypeId} {k : Nat} {f : Nat → Nat}
theorem Nd.heap (h : Nd W g t k f) : W.heap[g]? = some (.cells (nc k f) t (0, 0)) := of_row (nc_size k f) h (fun i hi => nc_at k f i hi)
theorem Nd.of_heap (h : W.heap[g]? = some (.cells (nc k f) t (0, 0))) : Nd W g t k f := row_of (nc_size k f) h (fun i hi => nc_at k f i hi)
theorem Nd.lt (h : Nd W g t k f) : g < W.heap.size := World.rowIs.lt h
theorem Nd.of_block (h : Nd W g t k f) (e : W'.heap[g]? = W.heap[g]?) : Nd W' g t k f := World.rowIs.of_block h e
theorem Nd.fz (h : Nd W g t k f) (i : Nat) : W.frozen? ⟨g, i, none⟩ = false := World.rowIs.frozen h i
theorem Nd.cell (h : Nd W g t k f) {i : Nat} (hi : i < k) : W.cell? ⟨g, i, none⟩ = some (.int .u64 ((f i : Nat) : Int)) := World.rowIs.cell h hi
theorem Nd.set (h : Nd W g t k f) (i x : Nat) : Nd (W.setCell ⟨g, i, none⟩ (.int .u64 ((x : Nat) : Int))) g t k (fun j => if j = i then x else f j) := by
  refine (World.rowIs.set h i _).congr (fun j hj => ?_)
  by_cases e : j = i <;> simp [e]
theorem Nd.congr (h : Nd W g t k f) {f' : Nat → Nat} (e : ∀ i, i < k → f i = f' i) : Nd W g t k f' := World.rowIs.congr h (fun i hi => by rw [e i hi])
theorem Nd.other (h : Nd W g t k f) {b : Nat} (hb : b ≠ g) (i : Nat) (v : Value) : Nd (W.setCell ⟨b, i, none⟩ v) g t k f := h.of_block (Below.heap_setCell _ _ _ _ (Ne.symm hb))
theorem Nd.row (h : Nd W g t k f) {b : Nat} (hb : b ≠ g) (c : Array Value) : Nd (W.setRow b c) g t k f := h.of_block (setRow_other W b g c (Ne.symm hb))
theorem Nd.below (h : Nd W g t k f) (b : Below W.heap.size W W') : Nd W' g t k f := h.of_block (b.block _ h.lt)
theorem Nd.drew (h : Nd W g t k f) : Nd W.drew g t k f := h
end
theorem nd_alloc (w : World) (t : TypeId) (n : Nat) : Nd (w.alloc (.cells (wn n) t)) w.heap.size t 4 (wd n) := Nd.of_heap (heap_alloc_last w _)
section
variable {t : TypeId} {n : Nat} {z : Array Value}
theorem resA2 (A : Arr t n z) {fn : Func} {p u : Tmp} (hf : fn.results = #[.cell p t, .tmp u]) (tmps : Array Value) (w : World) (g : Nat) (t' : TypeId) (c : Array Value) (hn : c.size = n)
    (hp : tmps.getD p undef = .pointer (some ⟨g, 0, none⟩)) (hg : w.heap[g]? = some (.cells c t' (0, 0))) (x : Value) (hx : tmps.getD u undef = x) : (results fn tmps).run Try.prog w = .ok (.tuple #[.agg c, x]) w := by
  subst hx
  have hp' : tmps[p]?.getD undef = .pointer (some ⟨g, 0, none⟩) := by simpa using hp
  rcases A.und with ⟨m, e, hd⟩ | ⟨fs, hd⟩ <;> simp [results, hf, hp', asAddr, run_loadVar_row w g t' t c (0, 0) _ hg hd rfl (by rw [A.info, hn])]
theorem resA3 (A : Arr t n z) {fn : Func} {p u v : Tmp} (hf : fn.results = #[.cell p t, .tmp u, .tmp v]) (tmps : Array Value) (w : World) (g : Nat) (t' : TypeId) (c : Array Value) (hn : c.size = n)
    (hp : tmps.getD p undef = .pointer (some ⟨g, 0, none⟩)) (hg : w.heap[g]? = some (.cells c t' (0, 0))) (x : Value) (hx : tmps.getD u undef = x) (y : Value) (hy : tmps.getD v undef = y) : (results fn tmps).run Try.prog w = .ok (.tuple #[.agg c, x, y]) w := by
  subst hx hy
  have hp' : tmps[p]?.getD undef = .pointer (some ⟨g, 0, none⟩) := by simpa using hp
  rcases A.und with ⟨m, e, hd⟩ | ⟨fs, hd⟩ <;> simp [results, hf, hp', asAddr, run_loadVar_row w g t' t c (0, 0) _ hg hd rfl (by rw [A.info, hn])]
theorem resAA (A : Arr t n z) {fn : Func} {p u : Tmp} (hf : fn.results = #[.cell p t, .cell u t]) (tmps : Array Value) (w : World) (g h : Nat) (t' : TypeId) (c d : Array Value) (hn : c.size = n) (hm : d.size = n)
    (hp : tmps.getD p undef = .pointer (some ⟨g, 0, none⟩)) (hg : w.heap[g]? = some (.cells c t' (0, 0))) (hu : tmps.getD u undef = .pointer (some ⟨h, 0, none⟩)) (hh : w.heap[h]? = some (.cells d t' (0, 0))) : (results fn tmps).run Try.prog w = .ok (.tuple #[.agg c, .agg d]) w := by
  have hp' : tmps[p]?.getD undef = .pointer (some ⟨g, 0, none⟩) := by simpa using hp
  have hu' : tmps[u]?.getD undef = .pointer (some ⟨h, 0, none⟩) := by simpa using hu
  rcases A.und with ⟨m, e, hd⟩ | ⟨fs, hd⟩ <;> simp [results, hf, hp', hu', asAddr, run_loadVar_row w g t' t c (0, 0) _ hg hd rfl (by rw [A.info, hn]), run_loadVar_row w h t' t d (0, 0) _ hh hd rfl (by rw [A.info, hm])]
theorem resAA3 (A : Arr t n z) {fn : Func} {p u v : Tmp} (hf : fn.results = #[.cell p t, .cell u t, .tmp v]) (tmps : Array Value) (w : World) (g h : Nat) (t' : TypeId) (c d : Array Value) (hn : c.size = n) (hm : d.size = n)
    (hp : tmps.getD p undef = .pointer (some ⟨g, 0, none⟩)) (hg : w.heap[g]? = some (.cells c t' (0, 0))) (hu : tmps.getD u undef = .pointer (some ⟨h, 0, none⟩)) (hh : w.heap[h]? = some (.cells d t' (0, 0))) (x : Value) (hx : tmps.getD v undef = x) : (results fn tmps).run Try.prog w = .ok (.tuple #[.agg c, .agg d, x]) w := by
  subst hx
  have hp' : tmps[p]?.getD undef = .pointer (some ⟨g, 0, none⟩) := by simpa using hp
  have hu' : tmps[u]?.getD undef = .pointer (some ⟨h, 0, none⟩) := by simpa using hu
  rcases A.und with ⟨m, e, hd⟩ | ⟨fs, hd⟩ <;> simp [results, hf, hp', hu', asAddr, run_loadVar_row w g t' t c (0, 0) _ hg hd rfl (by rw [A.info, hn]), run_loadVar_row w h t' t d (0, 0) _ hh hd rfl (by rw [A.info, hm])]
end
/-- The library's sum of two words and a carry. -/
theorem add64_run (x y c : Nat) (hc : c ≤ 1) (w : World) : (callFunc 51 #[.int .u64 (x : Int), .int .u64 (y : Int), .int .u64 (c : Int)]).run Try.prog w =
    .ok (.value (.tuple #[.int .u64 (((x + y + c) % 18446744073709551616 : Nat) : Int), .int .u64 (((x + y + c) / 18446744073709551616 : Nat) : Int)])) w := by
  rw [run_callFunc_extern Try.func51 (by kernel_rfl) (by kernel_rfl) (by kernel_rfl) (e := add64Entry) (by kernel_rfl), run_add64 x y c (by omega) (by omega) (by omega) (by omega)]
  simp only [Result.andThen]
  congr 5 <;> omega
def sub64E : Array Value → Sem Value := fun args => do
  let (x, y, b) ← Extern.MathBitsCarry.three "Sub64" args
  pure (Extern.MathBitsCarry.pair ((x + Extern.MathBitsCarry.m64 - y - b) % Extern.MathBitsCarry.m64) (if x < y + b then 1 else 0))
/-- The library's difference of two words and a borrow. -/
theorem sub64_run (x y b : Nat) (hb : b ≤ 1) (w : World) : (callFunc 71 #[.int .u64 (x : Int), .int .u64 (y : Int), .int .u64 (b : Int)]).run Try.prog w =
    .ok (.value (.tuple #[.int .u64 (((x + 18446744073709551616 - y - b) % 18446744073709551616 : Nat) : Int), .int .u64 ((if x < y + b then 1 else 0 : Nat) : Int)])) w := by
  have e : (sub64E #[.int .u64 x, .int .u64 y, .int .u64 b]).run Try.prog w =
      .ok (.tuple #[.int .u64 (((x + 18446744073709551616 - y - b) % 18446744073709551616 : Nat) : Int), .int .u64 ((if x < y + b then 1 else 0 : Nat) : Int)]) w := by
    have : b = 0 ∨ b = 1 := by omega
    rcases this with rfl | rfl <;> rfl
  rw [run_callFunc_extern Try.func71 (by kernel_rfl) (by kernel_rfl) (by kernel_rfl) (e := sub64E) (by kernel_rfl), e]
  rfl
end Go.Proofs.Ytmfpnlnhebjelaa
