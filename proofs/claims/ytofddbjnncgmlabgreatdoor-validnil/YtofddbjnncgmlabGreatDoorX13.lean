/- Words of a number in blocks of memory; what the library's sums of words answer. The contracts of wide.Add, Sub, From, Zero, and the document's Add, Not, Compare, Sub. Numbers held against each other, numbers of one word. The contracts of wide.Sub, From, Zero, Compare, Low, Not. -/
import Derived.Test.YtofddbjnncgmlabGreatDoorX06
import Derived.Test.YtofddbjnncgmlabGreatDoorX12
import Derived.Laws.BitsAllLaws
import Derived.Laws.MathBits
import Derived.Laws.Externs
namespace Go.Proofs.YtofddbjnncgmlabGreatDoor
open Go.RowKit
open Go.Deep
/-- Words as cells. -/
def nc (k : Nat) (f : Nat → Nat) : Array Value := ((List.range k).map fun i => Value.int .u64 ((f i : Nat) : Int)).toArray
theorem nc_size (k : Nat) (f : Nat → Nat) : (nc k f).size = k := by simp [nc]
theorem nc_one (k : Nat) (f : Nat → Nat) : (nc k f).all (·.oneCell') = true := by
  rw [Array.all_eq_true_iff_forall_mem]
  intro v hv
  simp only [nc, List.mem_toArray, List.mem_map] at hv
  obtain ⟨b, _, rfl⟩ := hv
  rfl
theorem nc_at (k : Nat) (f : Nat → Nat) (i : Nat) (hi : i < k) : (nc k f)[i]? = some (.int .u64 ((f i : Nat) : Int)) := by
  simp [nc, hi]
theorem nc_congr {k : Nat} {f g : Nat → Nat} (h : ∀ i, i < k → f i = g i) : nc k f = nc k g := by
  unfold nc
  congr 1
  apply List.map_congr_left
  intro i hi
  rw [h i (by simpa using hi)]
/-- The word i of a number. -/
def wd (n i : Nat) : Nat := dg 18446744073709551616 n i
theorem wd_lt (n i : Nat) : wd n i < 18446744073709551616 := dg_lt (by decide) n i
/-- The cells of a number. -/
def wn (n : Nat) : Array Value := nc 4 (wd n)
theorem wn_size (n : Nat) : (wn n).size = 4 := nc_size 4 _
theorem wn_one (n : Nat) : (wn n).all (·.oneCell') = true := nc_one 4 _
theorem AW : Arr 232 4 (wn 0) := ⟨.inl ⟨_, _, Tryz.underlying232⟩, by kernel_rfl, fun w => by kernel_rfl, fun w => by kernel_rfl, wn_size 0⟩
theorem AR : Arr 231 4 (wn 0) := ⟨.inl ⟨_, _, Tryz.underlying231⟩, by kernel_rfl, fun w => by kernel_rfl, fun w => by kernel_rfl, wn_size 0⟩
/-- The greatest number, and one. -/
def M : Nat := 115792089237316195423570985008687907853269984665640564039457584007913129639936
theorem M_eq : M = 18446744073709551616 ^ 4 := by decide
theorem M_pow : M = 2 ^ 256 := by decide
theorem M_pos : 0 < M := by decide
theorem wd_mod (n i : Nat) (h : i < 4) : wd (n % M) i = wd n i := by rw [M_eq]; exact dg_mod _ _ _ _ h
theorem wn_mod (n : Nat) : wn (n % M) = wn n := nc_congr fun i hi => wd_mod n i hi
/-- The number of words. -/
def vn (f : Nat → Nat) : Nat := vs 18446744073709551616 f 4
theorem vn_lt {f : Nat → Nat} (h : ∀ i, i < 4 → f i < 18446744073709551616) : vn f < M := by rw [M_eq]; exact vs_lt h
theorem wn_vn {f : Nat → Nat} (h : ∀ i, i < 4 → f i < 18446744073709551616) : wn (vn f) = nc 4 f := nc_congr fun i hi => dg_vs h i hi
theorem wd_ext {m n : Nat} (hm : m < M) (hn : n < M) (h : ∀ i, i < 4 → wd m i = wd n i) : m = n := by
  rw [M_eq] at hm hn
  exact dg_ext hm hn h
/-- Words at block g. -/
def Nd (W : World) (g : Nat) (t : TypeId) (k : Nat) (f : Nat → Nat) : Prop := W.rowIs g t k (fun i => .int .u64 ((f i : Nat) : Int))
section
variable {W W' : World} {g : Nat} {t : TypeId} {k : Nat} {f : Nat → Nat}
theorem Nd.heap (h : Nd W g t k f) : W.heap[g]? = some (.cells (nc k f) t (0, 0)) := of_row (nc_size k f) h (fun i hi => nc_at k f i hi)
theorem Nd.of_heap (h : W.heap[g]? = some (.cells (nc k f) t (0, 0))) : Nd W g t k f := row_of (nc_size k f) h (fun i hi => nc_at k f i hi)
theorem Nd.lt (h : Nd W g t k f) : g < W.heap.size := World.rowIs.lt h
theorem Nd.of_block (h : Nd W g t k f) (e : W'.heap[g]? = W.heap[g]?) : Nd W' g t k f := World.rowIs.of_block h e
theorem Nd.fz (h : Nd W g t k f) (i : Nat) : W.frozen? ⟨g, i, none⟩ = false := World.rowIs.frozen h i
theorem Nd.cell (h : Nd W g t k f) {i : Nat} (hi : i < k) : W.cell? ⟨g, i, none⟩ = some (.int .u64 ((f i : Nat) : Int)) := World.rowIs.cell h hi
theorem Nd.set (h : Nd W g t k f) (i x : Nat) : Nd (W.setCell ⟨g, i, none⟩ (.int .u64 ((x : Nat) : Int))) g t k (fun j => if j = i then x else f j) := by
  refine (World.rowIs.set h i _).congr (fun j hj => ?_)
  by_cases e : j = i <;> simp [e]
theorem Nd.congr (h : Nd W g t k f) {f' : Nat → Nat} (e : ∀ i, i < k → f i = f' i) : Nd W g t k f' := World.rowIs.congr h (fun i hi => by rw [e i hi])
theorem Nd.other (h : Nd W g t k f) {b : Nat} (hb : b ≠ g) (i : Nat) (v : Value) : Nd (W.setCell ⟨b, i, none⟩ v) g t k f := h.of_block (Below.heap_setCell _ _ _ _ (Ne.symm hb))
theorem Nd.row (h : Nd W g t k f) {b : Nat} (hb : b ≠ g) (c : Array Value) : Nd (W.setRow b c) g t k f := h.of_block (setRow_other W b g c (Ne.symm hb))
theorem Nd.below (h : Nd W g t k f) (b : Below W.heap.size W W') : Nd W' g t k f := h.of_block (b.block _ h.lt)
theorem Nd.drew (h : Nd W g t k f) : Nd W.drew g t k f := h
end
theorem nd_alloc (w : World) (t : TypeId) (n : Nat) : Nd (w.alloc (.cells (wn n) t)) w.heap.size t 4 (wd n) := Nd.of_heap (heap_alloc_last w _)
section
variable {t : TypeId} {n : Nat} {z : Array Value}
theorem resA2 (A : Arr t n z) {fn : Func} {p u : Tmp} (hf : fn.results = #[.cell p t, .tmp u]) (tmps : Array Value) (w : World) (g : Nat) (t' : TypeId) (c : Array Value) (hn : c.size = n)
    (hp : tmps.getD p undef = .pointer (some ⟨g, 0, none⟩)) (hg : w.heap[g]? = some (.cells c t' (0, 0))) (x : Value) (hx : tmps.getD u undef = x) : (results fn tmps).run Tryz.prog w = .ok (.tuple #[.agg c, x]) w := by
  subst hx
  have hp' : tmps[p]?.getD undef = .pointer (some ⟨g, 0, none⟩) := by simpa using hp
  rcases A.und with ⟨m, e, hd⟩ | ⟨fs, hd⟩ <;> simp [results, hf, hp', asAddr, run_loadVar_row w g t' t c (0, 0) _ hg hd rfl (by rw [A.info, hn])]
theorem resA3 (A : Arr t n z) {fn : Func} {p u v : Tmp} (hf : fn.results = #[.cell p t, .tmp u, .tmp v]) (tmps : Array Value) (w : World) (g : Nat) (t' : TypeId) (c : Array Value) (hn : c.size = n)
    (hp : tmps.getD p undef = .pointer (some ⟨g, 0, none⟩)) (hg : w.heap[g]? = some (.cells c t' (0, 0))) (x : Value) (hx : tmps.getD u undef = x) (y : Value) (hy : tmps.getD v undef = y) : (results fn tmps).run Tryz.prog w = .ok (.tuple #[.agg c, x, y]) w := by
  subst hx hy
  have hp' : tmps[p]?.getD undef = .pointer (some ⟨g, 0, none⟩) := by simpa using hp
  rcases A.und with ⟨m, e, hd⟩ | ⟨fs, hd⟩ <;> simp [results, hf, hp', asAddr, run_loadVar_row w g t' t c (0, 0) _ hg hd rfl (by rw [A.info, hn])]
theorem resAA (A : Arr t n z) {fn : Func} {p u : Tmp} (hf : fn.results = #[.cell p t, .cell u t]) (tmps : Array Value) (w : World) (g h : Nat) (t' : TypeId) (c d : Array Value) (hn : c.size = n) (hm : d.size = n)
    (hp : tmps.getD p undef = .pointer (some ⟨g, 0, none⟩)) (hg : w.heap[g]? = some (.cells c t' (0, 0))) (hu : tmps.getD u undef = .pointer (some ⟨h, 0, none⟩)) (hh : w.heap[h]? = some (.cells d t' (0, 0))) : (results fn tmps).run Tryz.prog w = .ok (.tuple #[.agg c, .agg d]) w := by
  have hp' : tmps[p]?.getD undef = .pointer (some ⟨g, 0, none⟩) := by simpa using hp
  have hu' : tmps[u]?.getD undef = .pointer (some ⟨h, 0, none⟩) := by simpa using hu
  rcases A.und with ⟨m, e, hd⟩ | ⟨fs, hd⟩ <;> simp [results, hf, hp', hu', asAddr, run_loadVar_row w g t' t c (0, 0) _ hg hd rfl (by rw [A.info, hn]), run_loadVar_row w h t' t d (0, 0) _ hh hd rfl (by rw [A.info, hm])]
theorem resAA3 (A : Arr t n z) {fn : Func} {p u v : Tmp} (hf : fn.results = #[.cell p t, .cell u t, .tmp v]) (tmps : Array Value) (w : World) (g h : Nat) (t' : TypeId) (c d : Array Value) (hn : c.size = n) (hm : d.size = n)
    (hp : tmps.getD p undef = .pointer (some ⟨g, 0, none⟩)) (hg : w.heap[g]? = some (.cells c t' (0, 0))) (hu : tmps.getD u undef = .pointer (some ⟨h, 0, none⟩)) (hh : w.heap[h]? = some (.cells d t' (0, 0))) (x : Value) (hx : tmps.getD v undef = x) : (results fn tmps).run Tryz.prog w = .ok (.tuple #[.agg c, .agg d, x]) w := by
  subst hx
  have hp' : tmps[p]?.getD undef = .pointer (some ⟨g, 0, none⟩) := by simpa using hp
  have hu' : tmps[u]?.getD undef = .pointer (some ⟨h, 0, none⟩) := by simpa using hu
  rcases A.und with ⟨m, e, hd⟩ | ⟨fs, hd⟩ <;> simp [results, hf, hp', hu', asAddr, run_loadVar_row w g t' t c (0, 0) _ hg hd rfl (by rw [A.info, hn]), run_loadVar_row w h t' t d (0, 0) _ hh hd rfl (by rw [A.info, hm])]
end
/-- The library's sum of two words and a carry. -/
theorem add64_run (x y c : Nat) (hc : c ≤ 1) (w : World) : (callFunc 120 #[.int .u64 (x : Int), .int .u64 (y : Int), .int .u64 (c : Int)]).run Tryz.prog w =
    .ok (.value (.tuple #[.int .u64 (((x + y + c) % 18446744073709551616 : Nat) : Int), .int .u64 (((x + y + c) / 18446744073709551616 : Nat) : Int)])) w := by
  rw [run_callFunc_extern Tryz.func120 (by kernel_rfl) (by kernel_rfl) (by kernel_rfl) (e := add64Entry) (by kernel_rfl), run_add64 x y c (by omega) (by omega) (by omega) (by omega)]
  simp only [Result.andThen]
  congr 5 <;> omega
def sub64E : Array Value → Sem Value := fun args => do
  let (x, y, b) ← Extern.MathBitsCarry.three "Sub64" args
  pure (Extern.MathBitsCarry.pair ((x + Extern.MathBitsCarry.m64 - y - b) % Extern.MathBitsCarry.m64) (if x < y + b then 1 else 0))
/-- The library's difference of two words and a borrow. -/
theorem sub64_run (x y b : Nat) (hb : b ≤ 1) (w : World) : (callFunc 172 #[.int .u64 (x : Int), .int .u64 (y : Int), .int .u64 (b : Int)]).run Tryz.prog w =
    .ok (.value (.tuple #[.int .u64 (((x + 18446744073709551616 - y - b) % 18446744073709551616 : Nat) : Int), .int .u64 ((if x < y + b then 1 else 0 : Nat) : Int)])) w := by
  have e : (sub64E #[.int .u64 x, .int .u64 y, .int .u64 b]).run Tryz.prog w =
      .ok (.tuple #[.int .u64 (((x + 18446744073709551616 - y - b) % 18446744073709551616 : Nat) : Int), .int .u64 ((if x < y + b then 1 else 0 : Nat) : Int)]) w := by
    have : b = 0 ∨ b = 1 := by omega
    rcases this with rfl | rfl <;> rfl
  rw [run_callFunc_extern Tryz.func172 (by kernel_rfl) (by kernel_rfl) (by kernel_rfl) (e := sub64E) (by kernel_rfl), e]
  rfl
end Go.Proofs.YtofddbjnncgmlabGreatDoor
namespace Go.Proofs.YtofddbjnncgmlabGreatDoor
open Go.RowKit
open Go.Deep
/-- The carry behind i words. -/
def cy (m n i : Nat) : Nat := (m % 18446744073709551616 ^ i + n % 18446744073709551616 ^ i) / 18446744073709551616 ^ i
theorem cy_zero (m n : Nat) : cy m n 0 = 0 := by simp [cy, Nat.mod_one]
theorem cy_le (m n i : Nat) : cy m n i ≤ 1 := carry_le _ m n i (by decide)
theorem add_word (m n i : Nat) : (wd m i + wd n i + cy m n i) % 18446744073709551616 = wd (m + n) i := (add_digit _ m n i (by decide)).symm
theorem cy_step (m n i : Nat) : (wd m i + wd n i + cy m n i) / 18446744073709551616 = cy m n (i + 1) := (add_carry _ m n i (by decide)).symm
theorem blk2x (w : World) (A B : Obj) : ((w.alloc A).alloc B).heap[w.heap.size]? = some A ∧ ((w.alloc A).alloc B).heap[w.heap.size + 1]? = some B := by
  have e1 := heap_alloc_last w A
  have e2 := heap_alloc_last (w.alloc A) B
  have s1 : (w.alloc A).heap.size = w.heap.size + 1 := by simp
  rw [s1] at e2
  exact ⟨(Below.heap_alloc _ B _ (by omega)).trans e1, e2⟩
theorem below2x (w : World) (A B : Obj) : Below w.heap.size w ((w.alloc A).alloc B) :=
  ((Below.refl _ _).alloc (Nat.le_refl _) _).alloc (by simp) _
theorem blk4 (w : World) (A B C D : Obj) : ((((w.alloc A).alloc B).alloc C).alloc D).heap[w.heap.size]? = some A ∧ ((((w.alloc A).alloc B).alloc C).alloc D).heap[w.heap.size + 1]? = some B ∧ ((((w.alloc A).alloc B).alloc C).alloc D).heap[w.heap.size + 1 + 1]? = some C ∧ ((((w.alloc A).alloc B).alloc C).alloc D).heap[w.heap.size + 1 + 1 + 1]? = some D := by
  obtain ⟨e1, e2, e3⟩ := blk3 w A B C
  have e4 := heap_alloc_last (((w.alloc A).alloc B).alloc C) D
  have s3 : (((w.alloc A).alloc B).alloc C).heap.size = w.heap.size + 1 + 1 + 1 := by simp
  rw [s3] at e4
  exact ⟨(Below.heap_alloc _ D _ (by omega)).trans e1, (Below.heap_alloc _ D _ (by omega)).trans e2, (Below.heap_alloc _ D _ (by omega)).trans e3, e4⟩
theorem below4 (w : World) (A B C D : Obj) : Below w.heap.size w ((((w.alloc A).alloc B).alloc C).alloc D) :=
  ((((Below.refl _ _).alloc (Nat.le_refl _) _).alloc (by simp) _).alloc (by simp; omega) _).alloc (by simp; omega) _
/-- Two numbers, an answer's place and a fourth row. -/
structure Ad (w W : World) (t : TypeId) (m n : Nat) (f : Nat → Nat) : Prop where
  a : Nd W w.heap.size t 4 (wd m)
  b : Nd W (w.heap.size + 1) t 4 (wd n)
  r : W.heap[w.heap.size + 1 + 1]? = some (.cells (wn 0) t (0, 0))
  o : Nd W (w.heap.size + 1 + 1 + 1) t 4 f
  bel : Below w.heap.size w W
theorem Ad.start (w : World) (t : TypeId) (m n : Nat) : Ad w ((((w.alloc (.cells (wn m) t)).alloc (.cells (wn n) t)).alloc (.cells (wn 0) t)).alloc (.cells (wn 0) t)) t m n (wd 0) := by
  obtain ⟨e1, e2, e3, e4⟩ := blk4 w (.cells (wn m) t) (.cells (wn n) t) (.cells (wn 0) t) (.cells (wn 0) t)
  exact ⟨Nd.of_heap e1, Nd.of_heap e2, e3, Nd.of_heap e4, below4 w _ _ _ _⟩
theorem Ad.set {w W : World} {t : TypeId} {m n : Nat} {f : Nat → Nat} (j : Ad w W t m n f) (i x : Nat) : Ad w (W.setCell ⟨w.heap.size + 1 + 1 + 1, i, none⟩ (.int .u64 ((x : Nat) : Int))) t m n (fun k => if k = i then x else f k) :=
  ⟨j.a.other (by omega) _ _, j.b.other (by omega) _ _, (Below.heap_setCell _ _ _ _ (by simp)).trans j.r, j.o.set i x, j.bel.setCell (by simp; omega) _⟩
theorem Ad.drew {w W : World} {t : TypeId} {m n : Nat} {f : Nat → Nat} (j : Ad w W t m n f) : Ad w W.drew t m n f := ⟨j.a, j.b, j.r, j.o, j.bel.drew⟩
theorem Ad.congr {w W : World} {t : TypeId} {m n : Nat} {f f' : Nat → Nat} (j : Ad w W t m n f) (e : ∀ i, i < 4 → f i = f' i) : Ad w W t m n f' := ⟨j.a, j.b, j.r, j.o.congr e, j.bel⟩
/-- The first i words of a number, zeros behind. -/
def wf (N i j : Nat) : Nat := if j < i then wd N j else 0
theorem wf_zero (N j : Nat) : wd 0 j = wf N 0 j := by simp [wf, wd, dg_zero]
theorem wf_step (N i j : Nat) : (if j = i then wd N i else wf N i j) = wf N (i + 1) j := by
  unfold wf
  by_cases e : j = i
  · rw [if_pos e, if_pos (by omega), e]
  · rw [if_neg e]
    by_cases e2 : j < i
    · rw [if_pos e2, if_pos (by omega)]
    · rw [if_neg e2, if_neg (by omega)]
theorem wf_four (N j : Nat) (h : j < 4) : wf N 4 j = wd N j := by rw [wf, if_pos h]
theorem cy_end (m n : Nat) (hm : m < M) (hn : n < M) : cy m n 4 = if M ≤ m + n then 1 else 0 := by
  unfold cy
  rw [← M_eq, Nat.mod_eq_of_lt hm, Nat.mod_eq_of_lt hn]
  have := M_pos
  split
  · rename_i h
    rw [Nat.div_eq_sub_div this h, Nat.div_eq_of_lt (by omega)]
  · rename_i h
    rw [Nat.div_eq_of_lt (by omega)]
section
set_option maxRecDepth 10000
set_option maxHeartbeats 1000000
end
end Go.Proofs.YtofddbjnncgmlabGreatDoor
namespace Go.Proofs.YtofddbjnncgmlabGreatDoor
open Go.RowKit
open Go.Deep
theorem size22 (w : World) : (sizeOf 66).run Tryz.prog w = .ok 1 w := by kernel_rfl
theorem eqgW : Tryz.prog.eqGuardType Tryz.prog.depth 232 = false := by kernel_rfl
theorem eqgR : Tryz.prog.eqGuardType Tryz.prog.depth 231 = false := by kernel_rfl
set_option maxRecDepth 20000 in
theorem eq_nc (t : TypeId) (k : Nat) (ht : Tryz.prog.underlying t = some (.array k 66)) (f g : Nat → Nat) (w : World) : (Op.equalIn 10000 t (.agg (nc k f)) (.agg (nc k g))).run Tryz.prog w = .ok ((List.range k).all fun i => f i == g i) w := by
  rw [List.range_eq_range', Op.equalIn]
  simp only [Sem.run_bind, run_underlying ht, Result.andThen_ok, size22, Std.Legacy.Range.forIn_eq_forIn_range', Std.Legacy.Range.size, Nat.sub_zero, Nat.add_sub_cancel, Nat.div_one]
  have hr : ∀ i ∈ List.range' 0 k 1, i < k := fun i hi => by simpa using (List.mem_range'_1.1 hi).2
  generalize List.range' 0 k 1 = r at hr ⊢
  induction r with
  | nil => simp
  | cons i r ih =>
    have hi : i < k := hr i (by simp)
    have hp : ∀ h : Nat → Nat, (Go.part 66 (nc k h) (i * 1)).run Tryz.prog w = .ok (.int .u64 ((h i : Nat) : Int)) w := fun h => by
      simp [Go.part, isAgg, run_underlying Tryz.underlying66, nc_at k h i hi]
    have he : (Op.equalIn 9999 66 (.int .u64 ((f i : Nat) : Int)) (.int .u64 ((g i : Nat) : Int))).run Tryz.prog w = .ok (f i == g i) w := by
      rw [run_equalIn_int w 9998 66 .u64 .u64 _ _ Tryz.underlying66]
      congr 1
      rw [Bool.eq_iff_iff]
      simp
      omega
    simp only [List.forIn_cons, Sem.run_bind, hp, he, Result.andThen_ok, List.all_cons]
    cases hb : (f i == g i)
    · simp
    · simp only [Bool.not_true, Bool.false_eq_true, if_false, Sem.run_pure, Result.andThen_ok, Bool.true_and]
      exact ih fun j hj => hr j (by simp [hj])
theorem all_words (m n : Nat) (hm : m < M) (hn : n < M) : ((List.range 4).all fun i => wd m i == wd n i) = decide (m = n) := by
  rw [Bool.eq_iff_iff]
  simp only [List.all_eq_true, List.mem_range, beq_iff_eq, decide_eq_true_eq]
  exact ⟨fun h => wd_ext hm hn h, fun h i _ => by rw [h]⟩
theorem eqW (m n : Nat) (hm : m < M) (hn : n < M) (w : World) : (Op.equalIn 10000 232 (.agg (wn m)) (.agg (wn n))).run Tryz.prog w = .ok (decide (m = n)) w := by
  rw [← all_words m n hm hn]
  exact eq_nc _ 4 Tryz.underlying232 _ _ w
theorem eqR (m n : Nat) (hm : m < M) (hn : n < M) (w : World) : (Op.equalIn 10000 231 (.agg (wn m)) (.agg (wn n))).run Tryz.prog w = .ok (decide (m = n)) w := by
  rw [← all_words m n hm hn]
  exact eq_nc _ 4 Tryz.underlying231 _ _ w
theorem wd_small (x : Nat) (h : x < 18446744073709551616) : wd x 0 = x ∧ wd x 1 = 0 ∧ wd x 2 = 0 ∧ wd x 3 = 0 := by
  simp only [wd, dg]
  omega
theorem wn_four (n : Nat) : wn n = #[.int .u64 ((wd n 0 : Nat) : Int), .int .u64 ((wd n 1 : Nat) : Int), .int .u64 ((wd n 2 : Nat) : Int), .int .u64 ((wd n 3 : Nat) : Int)] := rfl
theorem wn_small (x : Nat) (h : x < 18446744073709551616) : wn x = #[.int .u64 (x : Int), .int .u64 0, .int .u64 0, .int .u64 0] := by
  obtain ⟨h0, h1, h2, h3⟩ := wd_small x h
  rw [wn_four, h0, h1, h2, h3]
  rfl
theorem run_buildW (x : Nat) (h : x < 18446744073709551616) (w : World) : (Instr.build 232 #[(0, .int .u64 (x : Int))]).run Tryz.prog w = .ok (.agg (wn x)) w := by
  rw [wn_small x h]
  kernel_rfl
theorem run_buildR (x : Nat) (h : x < 18446744073709551616) (w : World) : (Instr.build 231 #[(0, .int .u64 (x : Int))]).run Tryz.prog w = .ok (.agg (wn x)) w := by
  rw [wn_small x h]
  kernel_rfl
section
variable {w : World} {ops : Array Oper} {rest : List Oper} {o : Oper} {a : Act} {Q : Exit → Act → World → Prop} {t : TypeId} {n : Nat} {z : Array Value}
theorem wpList_build1 (hw : Region.wanted o (yielded ops a.tmps) = true) (x : Operand) (ho : o.op = .build t #[(0, x)]) (X : Int) (c : Array Value) (hr : ∀ W, (Instr.build t #[(0, .int .u64 X)]).run Tryz.prog W = .ok (.agg c) W) (hx : a.eval x = .int .u64 X)
    (h : wpList Tryz.prog ops Q rest (a.put o.dst (.agg c)) w) : wpList Tryz.prog ops Q (o :: rest) a w := by
  refine wpList_step fun K hK => ?_
  rw [if_pos hw]
  unfold Oper.wp execOp
  simp only [ho, List.map_toArray, List.map_cons, List.map_nil, hx, hr w, Sem.run_bind, Result.andThen_ok, Sem.run_pure]
  exact hK _ _ h
theorem wpList_build0 (A : Arr t n z) (hw : Region.wanted o (yielded ops a.tmps) = true) (ho : o.op = .build t #[])
    (h : wpList Tryz.prog ops Q rest (a.put o.dst (.agg z)) w) : wpList Tryz.prog ops Q (o :: rest) a w := by
  refine wpList_step fun K hK => ?_
  rw [if_pos hw]
  unfold Oper.wp execOp
  simp only [ho, List.map_toArray, List.map_nil, A.build, Sem.run_bind, Result.andThen_ok, Sem.run_pure]
  exact hK _ _ h
theorem wpList_loadW (A : Arr t n z) (hw : Region.wanted o (yielded ops a.tmps) = true) (x : Operand) (ho : o.op = .load t x) (g : Nat) (hx : a.eval x = .pointer (some ⟨g, 0, none⟩)) (c : Array Value) (hn : c.size = n) (t' : TypeId) (hg : w.heap[g]? = some (.cells c t' (0, 0)))
    (h : wpList Tryz.prog ops Q rest (a.put o.dst (.agg c)) w) : wpList Tryz.prog ops Q (o :: rest) a w := by
  refine wpList_step fun K hK => ?_
  rw [if_pos hw]
  unfold Oper.wp execOp
  simp only [ho, hx, Sem.run_bind, ld_row A hn hg, Result.andThen_ok, Sem.run_pure]
  exact hK _ _ h
end
end Go.Proofs.YtofddbjnncgmlabGreatDoor
namespace Go.Proofs.YtofddbjnncgmlabGreatDoor
open Go.RowKit
open Go.Deep
/-- m less n, as a number of 256 bits. -/
def df (m n : Nat) : Nat := m + M - n
theorem wd_M (m i : Nat) (h : i < 4) : wd (m + M) i = wd m i := by
  rw [← wd_mod (m + M) i h, Nat.add_mod_right, wd_mod m i h]
theorem df_add (m n : Nat) (hn : n < M) : df m n + n = m + M := by unfold df; omega
theorem df_word (m n i : Nat) (hn : n < M) (h : i < 4) : wd m i = (wd (df m n) i + wd n i + cy (df m n) n i) % 18446744073709551616 := by
  rw [add_word, df_add m n hn, wd_M m i h]
theorem df_run (x d y c : Nat) (hd : d < 18446744073709551616) (hy : y < 18446744073709551616) (hc : c ≤ 1) (hx : x = (d + y + c) % 18446744073709551616) : (x + 18446744073709551616 - y - c) % 18446744073709551616 = d ∧ (if x < y + c then 1 else 0) = (d + y + c) / 18446744073709551616 := by
  subst hx
  refine ⟨by omega, ?_⟩
  split <;> omega
theorem df_sub (m n i : Nat) (hn : n < M) (h : i < 4) : (wd m i + 18446744073709551616 - wd n i - cy (df m n) n i) % 18446744073709551616 = wd (df m n) i ∧ (if wd m i < wd n i + cy (df m n) n i then 1 else 0) = cy (df m n) n (i + 1) := by
  rw [← cy_step]
  exact df_run _ _ _ _ (wd_lt _ _) (wd_lt _ _) (cy_le _ _ _) (df_word m n i hn h)
theorem df_end (m n : Nat) (hm : m < M) (hn : n < M) : cy (df m n) n 4 = if m < n then 1 else 0 := by
  unfold cy df
  rw [← M_eq, Nat.mod_eq_of_lt hn]
  split
  · rename_i h
    rw [Nat.mod_eq_of_lt (by omega), show m + M - n + n = M + m by omega, Nat.add_div_left _ M_pos, Nat.div_eq_of_lt hm]
  · rename_i h
    rw [show m + M - n = m - n + M by omega, Nat.add_mod_right, Nat.mod_eq_of_lt (by omega), show m - n + n = m by omega, Nat.div_eq_of_lt hm]
section
set_option maxRecDepth 10000
set_option maxHeartbeats 1000000
theorem wsub_any (m n : Nat) (hm : m < M) (hn : n < M) (w : World) : Calls Tryz.prog 180 #[.agg (wn m), .agg (wn n)] w fun e w' => e = .returned (.tuple #[.agg (wn (df m n)), .bool (decide (m < n))]) ∧ Below w.heap.size w w' := by
  have J0 := hide ((Ad.start w 232 m n).congr (fun i _ => wf_zero (df m n) i))
  go_enter Tryz.func180, Tryz.ntmps180
  go_wp2_with (first | refine wpList_boxA rfl _ rfl (wn m) rfl ?_ | refine wpList_boxA rfl _ rfl (wn n) rfl ?_ | refine wpList_allocA AW rfl rfl ?_)
  generalize (((w.alloc (.cells (wn m) 232)).alloc (.cells (wn n) 232)).alloc (.cells (wn 0) 232)).alloc (.cells (wn 0) 232) = W0 at *
  go_loopw [7, 8, 9] (fun c _ d wr => ∃ i : Nat, i ≤ 4 ∧ c = .int .u64 ((cy (df m n) n i : Nat) : Int) ∧ d = .int .i64 i ∧ Hid (Ad w wr 232 m n (wf (df m n) i))) (fun _ _ d _ => (4 - intOf d).toNat)
  case atStart => exact ⟨0, by omega, by rw [cy_zero]; rfl, rfl, J0⟩
  case round =>
    clear J0
    obtain ⟨i, hi, rfl, rfl, J⟩ := hrel
    by_cases hlt : i < 4
    · have ha := J.out.a.cell hlt
      have hb := J.out.b.cell hlt
      have ho := J.out.o.cell hlt
      have hf := J.out.o.fz i
      have hi4 : (i : Int) < 4 := by omega
      have hC := fun W => sub64_run (wd m i) (wd n i) _ (cy_le (df m n) n i) W
      rw [(df_sub m n i hn hlt).1, (df_sub m n i hn hlt).2] at hC
      generalize hd : df m n = D at *
      clear hd
      go_upto_region 6 with fail
      go_region_with (simp only [hC])
      all_goals (go_wp2; exact ⟨⟨i + 1, by omega, rfl, by go_num, hide ((J.out.drew.set i _).congr (fun k _ => wf_step D i k))⟩, by simp [intOf]; omega⟩)
    · have hke : i = 4 := by omega
      subst hke
      have H2 := (J.out.o.congr (wf_four (df m n))).heap
      have hE : (((cy (df m n) n 4 : Nat) : Int) != 0) = decide (m < n) := by
        rw [df_end m n hm hn]
        by_cases h : m < n <;> simp [h]
      generalize cy (df m n) n 4 = c at *
      go_wp2_with (first | refine wpList_loadA AW rfl _ rfl _ rfl (wn (df m n)) (wn_size _) 232 H2 ?_ | refine wpList_storeA AW rfl _ _ rfl _ (wn (df m n)) (wn_size _) (wn_one _) rfl rfl (wn 0) (wn_size 0) 232 J.out.r ?_)
      exact bodyPost_ret (v := .tuple #[.agg (wn (df m n)), .bool (decide (m < n))]) (resA2 AW Tryz.results180 _ _ (w.heap.size + 1 + 1) 232 (wn (df m n)) (wn_size _) rfl (setRow_heap _ _ _ _ _ _ J.out.r) _ (by rfl)) rfl ⟨rfl, below_setRow J.out.bel (by omega) _⟩
theorem from_any (x : Nat) (hx : x < 18446744073709551616) (w : World) : Calls Tryz.prog 179 #[.int .u64 (x : Int)] w fun e w' => e = .returned (.agg (wn x)) ∧ Below w.heap.size w w' := by
  have HB := hide fun W => run_buildW x hx W
  go_enter Tryz.func179, Tryz.ntmps179
  go_wp2_with (first | refine wpList_allocA AW rfl rfl ?_ | refine wpList_build1 rfl _ rfl _ (wn x) HB.out rfl ?_ | refine wpList_store_newA AW rfl _ _ rfl _ rfl (wn x) (wn_size _) (wn_one _) rfl rfl ?_)
  exact bodyPost_ret (v := .agg (wn x)) (resA AW Tryz.results179 _ _ w.heap.size 232 (wn x) (wn_size _) rfl (heap_alloc_last _ _)) rfl ⟨rfl, (Below.refl _ _).alloc (Nat.le_refl _) _⟩
theorem zero_any (m : Nat) (hm : m < M) (w : World) : Calls Tryz.prog 160 #[.agg (wn m)] w fun e w' => e = .returned (.bool (decide (m = 0))) ∧ Below w.heap.size w w' := by
  have HE := hide fun W => eqW m 0 hm M_pos W
  have H1 := hide (heap_alloc_last w (.cells (wn m) 232))
  generalize decide (m = 0) = v at *
  go_enter Tryz.func160, Tryz.ntmps160
  go_wp2_with (first | refine wpList_boxA rfl _ rfl (wn m) rfl ?_ | refine wpList_loadA AW rfl _ rfl _ rfl (wn m) (wn_size _) 232 H1.out ?_ | refine wpList_buildA AW rfl rfl ?_ | refine wpList_eql 232 _ _ _ rfl (wn m) (wn 0) rfl rfl rfl eqgW v HE.out ?_)
  go_ret
  exact ⟨rfl, (Below.refl _ _).alloc (Nat.le_refl _) _⟩
/-- How two numbers stand. -/
def cmpZ (m n : Nat) : Int := if m < n then -1 else if m = n then 0 else 1
theorem compare_any (m n : Nat) (hm : m < M) (hn : n < M) (w : World) : Calls Tryz.prog 161 #[.agg (wn m), .agg (wn n)] w fun e w' => e = .returned (.int .i64 (cmpZ m n)) ∧ Below w.heap.size w w' := by
  have HE := hide fun W => eqW m n hm hn W
  obtain ⟨e1, e2⟩ := blk2x w (.cells (wn m) 232) (.cells (wn n) 232)
  have H1 := hide e1
  have H2 := hide e2
  have BB := hide (below2x w (.cells (wn m) 232) (.cells (wn n) 232))
  have HS := hide fun W => wsub_any m n hm hn W
  clear e1 e2
  by_cases h0 : m = n
  · have hv : decide (m = n) = true := by simp [h0]
    rw [hv] at HE
    have hz : cmpZ m n = 0 := by simp [cmpZ, h0]
    rw [hz]
    clear h0 hv hz
    go_enter Tryz.func161, Tryz.ntmps161
    go_wp2_with (first | refine wpList_boxA rfl _ rfl (wn m) rfl ?_ | refine wpList_boxA rfl _ rfl (wn n) rfl ?_ | refine wpList_loadA AW rfl _ rfl _ rfl (wn m) (wn_size _) 232 H1.out ?_ | refine wpList_loadA AW rfl _ rfl _ rfl (wn n) (wn_size _) 232 H2.out ?_ | refine wpList_eql 232 _ _ _ rfl (wn m) (wn n) rfl rfl rfl eqgW true HE.out ?_)
    go_ret
    exact ⟨rfl, BB.out⟩
  · have hv : decide (m = n) = false := by simp [h0]
    rw [hv] at HE
    by_cases hlt : m < n
    · have hz : cmpZ m n = -1 := by simp [cmpZ, hlt]
      have hd : decide (m < n) = true := by simp [hlt]
      rw [hd] at HS
      rw [hz]
      generalize df m n = D at *
      clear h0 hv hlt hd hz
      go_enter Tryz.func161, Tryz.ntmps161
      go_wp2_with (first | refine wpList_boxA rfl _ rfl (wn m) rfl ?_ | refine wpList_boxA rfl _ rfl (wn n) rfl ?_ | refine wpList_loadA AW rfl _ rfl _ rfl (wn m) (wn_size _) 232 H1.out ?_ | refine wpList_loadA AW rfl _ rfl _ rfl (wn n) (wn_size _) 232 H2.out ?_ | refine wpList_eql 232 _ _ _ rfl (wn m) (wn n) rfl rfl rfl eqgW false HE.out ?_ | (go_at_call 180; refine (HS.out _).mono ?_; rintro e w1 ⟨rfl, b1⟩; have B1 := hide (below_next BB.out b1)) | refine wpList_allocA AW rfl rfl ?_ | refine wpList_store_newA AW rfl _ _ rfl _ rfl (wn D) (wn_size _) (wn_one _) rfl rfl ?_)
      go_ret
      exact ⟨rfl, below_next B1.out ((Below.refl _ _).alloc (Nat.le_refl _) _)⟩
    · have hz : cmpZ m n = 1 := by simp [cmpZ, hlt, h0]
      have hd : decide (m < n) = false := by simp [hlt]
      rw [hd] at HS
      rw [hz]
      generalize df m n = D at *
      clear h0 hv hlt hd hz
      go_enter Tryz.func161, Tryz.ntmps161
      go_wp2_with (first | refine wpList_boxA rfl _ rfl (wn m) rfl ?_ | refine wpList_boxA rfl _ rfl (wn n) rfl ?_ | refine wpList_loadA AW rfl _ rfl _ rfl (wn m) (wn_size _) 232 H1.out ?_ | refine wpList_loadA AW rfl _ rfl _ rfl (wn n) (wn_size _) 232 H2.out ?_ | refine wpList_eql 232 _ _ _ rfl (wn m) (wn n) rfl rfl rfl eqgW false HE.out ?_ | (go_at_call 180; refine (HS.out _).mono ?_; rintro e w1 ⟨rfl, b1⟩; have B1 := hide (below_next BB.out b1)) | refine wpList_allocA AW rfl rfl ?_ | refine wpList_store_newA AW rfl _ _ rfl _ rfl (wn D) (wn_size _) (wn_one _) rfl rfl ?_)
      go_ret
      exact ⟨rfl, below_next B1.out ((Below.refl _ _).alloc (Nat.le_refl _) _)⟩
end
end Go.Proofs.YtofddbjnncgmlabGreatDoor
