/- Words of a number in blocks of memory; what the library's sums of words answer. The contracts of wide.Add, Sub, From, Zero, and the document's Add, Not, Compare, Sub. Numbers held against each other, numbers of one word. The contracts of wide.Sub, From, Zero, Compare, Low, Not. The mathematics of the library's long division of two words by one. The contracts of the library's Mul64, Len64 and LeadingZeros64. -/
import Derived.Test.YtcoojkpimbddlaaGreatDoorX04
import Derived.Test.YtcoojkpimbddlaaGreatDoorX08
import Derived.Laws.BitsAllLaws
import Derived.Laws.MathBits
import Derived.Laws.Externs
namespace Go.Proofs.YtcoojkpimbddlaaGreatDoor
open Go.RowKit
open Go.Deep
def nc (k : Nat) (f : Nat → Nat) : Array Value := ((List.range k).map fun i => Value.int .u64 ((f i : Nat) : Int)).toArray
theorem nc_size (k : Nat) (f : Nat → Nat) : (nc k f).size = k := by simp [nc]
theorem nc_one (k : Nat) (f : Nat → Nat) : (nc k f).all (·.oneCell') = true := by
  rw [Array.all_eq_true_iff_forall_mem]
  intro v hv
  simp only [nc, List.mem_toArray, List.mem_map] at hv
  obtain ⟨b, _, rfl⟩ := hv
  rfl
theorem nc_at (k : Nat) (f : Nat → Nat) (i : Nat) (hi : i < k) : (nc k f)[i]? = some (.int .u64 ((f i : Nat) : Int)) := by
  simp [nc, hi]
theorem nc_congr {k : Nat} {f g : Nat → Nat} (h : ∀ i, i < k → f i = g i) : nc k f = nc k g := by
  unfold nc
  congr 1
  apply List.map_congr_left
  intro i hi
  rw [h i (by simpa using hi)]
def wd (n i : Nat) : Nat := dg 18446744073709551616 n i
theorem wd_lt (n i : Nat) : wd n i < 18446744073709551616 := dg_lt (by decide) n i
def wn (n : Nat) : Array Value := nc 4 (wd n)
theorem wn_size (n : Nat) : (wn n).size = 4 := nc_size 4 _
theorem wn_one (n : Nat) : (wn n).all (·.oneCell') = true := nc_one 4 _
theorem AW : Arr 51 4 (wn 0) := ⟨.inl ⟨_, _, Tryz.underlying51⟩, by kernel_rfl, fun w => by kernel_rfl, fun w => by kernel_rfl, wn_size 0⟩
def M : Nat := 115792089237316195423570985008687907853269984665640564039457584007913129639936
theorem M_eq : M = 18446744073709551616 ^ 4 := by decide
theorem M_pow : M = 2 ^ 256 := by decide
theorem M_pos : 0 < M := by decide
theorem wd_mod (n i : Nat) (h : i < 4) : wd (n % M) i = wd n i := by rw [M_eq]; exact dg_mod _ _ _ _ h
theorem wn_mod (n : Nat) : wn (n % M) = wn n := nc_congr fun i hi => wd_mod n i hi
theorem wd_ext {m n : Nat} (hm : m < M) (hn : n < M) (h : ∀ i, i < 4 → wd m i = wd n i) : m = n := by
  rw [M_eq] at hm hn
  exact dg_ext hm hn h
def Nd (W : World) (g : Nat) (t : TypeId) (k : Nat) (f : Nat → Nat) : Prop := W.rowIs g t k (fun i => .int .u64 ((f i : Nat) : Int))
section
variable {W W' : World} {g : Nat} {t : TypeId} {k : Nat} {f : Nat → Nat}
theorem Nd.heap (h : Nd W g t k f) : W.heap[g]? = some (.cells (nc k f) t (0, 0)) := of_row (nc_size k f) h (fun i hi => nc_at k f i hi)
theorem Nd.of_heap (h : W.heap[g]? = some (.cells (nc k f) t (0, 0))) : Nd W g t k f := row_of (nc_size k f) h (fun i hi => nc_at k f i hi)
theorem Nd.lt (h : Nd W g t k f) : g < W.heap.size := World.rowIs.lt h
theorem Nd.of_block (h : Nd W g t k f) (e : W'.heap[g]? = W.heap[g]?) : Nd W' g t k f := World.rowIs.of_block h e
theorem Nd.fz (h : Nd W g t k f) (i : Nat) : W.frozen? ⟨g, i, none⟩ = false := World.rowIs.frozen h i
theorem Nd.cell (h : Nd W g t k f) {i : Nat} (hi : i < k) : W.cell? ⟨g, i, none⟩ = some (.int .u64 ((f i : Nat) : Int)) := World.rowIs.cell h hi
theorem Nd.set (h : Nd W g t k f) (i x : Nat) : Nd (W.setCell ⟨g, i, none⟩ (.int .u64 ((x : Nat) : Int))) g t k (fun j => if j = i then x else f j) := by
  refine (World.rowIs.set h i _).congr (fun j hj => ?_)
  by_cases e : j = i <;> simp [e]
theorem Nd.congr (h : Nd W g t k f) {f' : Nat → Nat} (e : ∀ i, i < k → f i = f' i) : Nd W g t k f' := World.rowIs.congr h (fun i hi => by rw [e i hi])
theorem Nd.other (h : Nd W g t k f) {b : Nat} (hb : b ≠ g) (i : Nat) (v : Value) : Nd (W.setCell ⟨b, i, none⟩ v) g t k f := h.of_block (Below.heap_setCell _ _ _ _ (Ne.symm hb))
theorem Nd.row (h : Nd W g t k f) {b : Nat} (hb : b ≠ g) (c : Array Value) : Nd (W.setRow b c) g t k f := h.of_block (setRow_other W b g c (Ne.symm hb))
theorem Nd.below (h : Nd W g t k f) (b : Below W.heap.size W W') : Nd W' g t k f := h.of_block (b.block _ h.lt)
theorem Nd.drew (h : Nd W g t k f) : Nd W.drew g t k f := h
end
theorem nd_alloc (w : World) (t : TypeId) (n : Nat) : Nd (w.alloc (.cells (wn n) t)) w.heap.size t 4 (wd n) := Nd.of_heap (heap_alloc_last w _)
section
variable {t : TypeId} {n : Nat} {z : Array Value}
theorem resA2 (A : Arr t n z) {fn : Func} {p u : Tmp} (hf : fn.results = #[.cell p t, .tmp u]) (tmps : Array Value) (w : World) (g : Nat) (t' : TypeId) (c : Array Value) (hn : c.size = n)
    (hp : tmps.getD p undef = .pointer (some ⟨g, 0, none⟩)) (hg : w.heap[g]? = some (.cells c t' (0, 0))) (x : Value) (hx : tmps.getD u undef = x) : (results fn tmps).run Tryz.prog w = .ok (.tuple #[.agg c, x]) w := by
  subst hx
  have hp' : tmps[p]?.getD undef = .pointer (some ⟨g, 0, none⟩) := by simpa using hp
  rcases A.und with ⟨m, e, hd⟩ | ⟨fs, hd⟩ <;> simp [results, hf, hp', asAddr, run_loadVar_row w g t' t c (0, 0) _ hg hd rfl (by rw [A.info, hn])]
theorem resAA (A : Arr t n z) {fn : Func} {p u : Tmp} (hf : fn.results = #[.cell p t, .cell u t]) (tmps : Array Value) (w : World) (g h : Nat) (t' : TypeId) (c d : Array Value) (hn : c.size = n) (hm : d.size = n)
    (hp : tmps.getD p undef = .pointer (some ⟨g, 0, none⟩)) (hg : w.heap[g]? = some (.cells c t' (0, 0))) (hu : tmps.getD u undef = .pointer (some ⟨h, 0, none⟩)) (hh : w.heap[h]? = some (.cells d t' (0, 0))) : (results fn tmps).run Tryz.prog w = .ok (.tuple #[.agg c, .agg d]) w := by
  have hp' : tmps[p]?.getD undef = .pointer (some ⟨g, 0, none⟩) := by simpa using hp
  have hu' : tmps[u]?.getD undef = .pointer (some ⟨h, 0, none⟩) := by simpa using hu
  rcases A.und with ⟨m, e, hd⟩ | ⟨fs, hd⟩ <;> simp [results, hf, hp', hu', asAddr, run_loadVar_row w g t' t c (0, 0) _ hg hd rfl (by rw [A.info, hn]), run_loadVar_row w h t' t d (0, 0) _ hh hd rfl (by rw [A.info, hm])]
theorem resAA3 (A : Arr t n z) {fn : Func} {p u v : Tmp} (hf : fn.results = #[.cell p t, .cell u t, .tmp v]) (tmps : Array Value) (w : World) (g h : Nat) (t' : TypeId) (c d : Array Value) (hn : c.size = n) (hm : d.size = n)
    (hp : tmps.getD p undef = .pointer (some ⟨g, 0, none⟩)) (hg : w.heap[g]? = some (.cells c t' (0, 0))) (hu : tmps.getD u undef = .pointer (some ⟨h, 0, none⟩)) (hh : w.heap[h]? = some (.cells d t' (0, 0))) (x : Value) (hx : tmps.getD v undef = x) : (results fn tmps).run Tryz.prog w = .ok (.tuple #[.agg c, .agg d, x]) w := by
  subst hx
  have hp' : tmps[p]?.getD undef = .pointer (some ⟨g, 0, none⟩) := by simpa using hp
  have hu' : tmps[u]?.getD undef = .pointer (some ⟨h, 0, none⟩) := by simpa using hu
  rcases A.und with ⟨m, e, hd⟩ | ⟨fs, hd⟩ <;> simp [results, hf, hp', hu', asAddr, run_loadVar_row w g t' t c (0, 0) _ hg hd rfl (by rw [A.info, hn]), run_loadVar_row w h t' t d (0, 0) _ hh hd rfl (by rw [A.info, hm])]
end
theorem add64_run (x y c : Nat) (hc : c ≤ 1) (w : World) : (callFunc 228 #[.int .u64 (x : Int), .int .u64 (y : Int), .int .u64 (c : Int)]).run Tryz.prog w =
    .ok (.value (.tuple #[.int .u64 (((x + y + c) % 18446744073709551616 : Nat) : Int), .int .u64 (((x + y + c) / 18446744073709551616 : Nat) : Int)])) w := by
  rw [run_callFunc_extern Tryz.func228 (by kernel_rfl) (by kernel_rfl) (by kernel_rfl) (e := add64Entry) (by kernel_rfl), run_add64 x y c (by omega) (by omega) (by omega) (by omega)]
  simp only [Result.andThen]
  congr 5 <;> omega
def sub64E : Array Value → Sem Value := fun args => do
  let (x, y, b) ← Extern.MathBitsCarry.three "Sub64" args
  pure (Extern.MathBitsCarry.pair ((x + Extern.MathBitsCarry.m64 - y - b) % Extern.MathBitsCarry.m64) (if x < y + b then 1 else 0))
theorem sub64_run (x y b : Nat) (hb : b ≤ 1) (w : World) : (callFunc 290 #[.int .u64 (x : Int), .int .u64 (y : Int), .int .u64 (b : Int)]).run Tryz.prog w =
    .ok (.value (.tuple #[.int .u64 (((x + 18446744073709551616 - y - b) % 18446744073709551616 : Nat) : Int), .int .u64 ((if x < y + b then 1 else 0 : Nat) : Int)])) w := by
  have e : (sub64E #[.int .u64 x, .int .u64 y, .int .u64 b]).run Tryz.prog w =
      .ok (.tuple #[.int .u64 (((x + 18446744073709551616 - y - b) % 18446744073709551616 : Nat) : Int), .int .u64 ((if x < y + b then 1 else 0 : Nat) : Int)]) w := by
    have : b = 0 ∨ b = 1 := by omega
    rcases this with rfl | rfl <;> rfl
  rw [run_callFunc_extern Tryz.func290 (by kernel_rfl) (by kernel_rfl) (by kernel_rfl) (e := sub64E) (by kernel_rfl), e]
  rfl
def cy (m n i : Nat) : Nat := (m % 18446744073709551616 ^ i + n % 18446744073709551616 ^ i) / 18446744073709551616 ^ i
theorem cy_zero (m n : Nat) : cy m n 0 = 0 := by simp [cy, Nat.mod_one]
theorem cy_le (m n i : Nat) : cy m n i ≤ 1 := carry_le _ m n i (by decide)
theorem add_word (m n i : Nat) : (wd m i + wd n i + cy m n i) % 18446744073709551616 = wd (m + n) i := (add_digit _ m n i (by decide)).symm
theorem cy_step (m n i : Nat) : (wd m i + wd n i + cy m n i) / 18446744073709551616 = cy m n (i + 1) := (add_carry _ m n i (by decide)).symm
theorem blk2x (w : World) (A B : Obj) : ((w.alloc A).alloc B).heap[w.heap.size]? = some A ∧ ((w.alloc A).alloc B).heap[w.heap.size + 1]? = some B := by
  have e1 := heap_alloc_last w A
  have e2 := heap_alloc_last (w.alloc A) B
  have s1 : (w.alloc A).heap.size = w.heap.size + 1 := by simp
  rw [s1] at e2
  exact ⟨(Below.heap_alloc _ B _ (by omega)).trans e1, e2⟩
theorem below2x (w : World) (A B : Obj) : Below w.heap.size w ((w.alloc A).alloc B) :=
  ((Below.refl _ _).alloc (Nat.le_refl _) _).alloc (by simp) _
theorem blk4 (w : World) (A B C D : Obj) : ((((w.alloc A).alloc B).alloc C).alloc D).heap[w.heap.size]? = some A ∧ ((((w.alloc A).alloc B).alloc C).alloc D).heap[w.heap.size + 1]? = some B ∧ ((((w.alloc A).alloc B).alloc C).alloc D).heap[w.heap.size + 1 + 1]? = some C ∧ ((((w.alloc A).alloc B).alloc C).alloc D).heap[w.heap.size + 1 + 1 + 1]? = some D := by
  obtain ⟨e1, e2, e3⟩ := blk3 w A B C
  have e4 := heap_alloc_last (((w.alloc A).alloc B).alloc C) D
  have s3 : (((w.alloc A).alloc B).alloc C).heap.size = w.heap.size + 1 + 1 + 1 := by simp
  rw [s3] at e4
  exact ⟨(Below.heap_alloc _ D _ (by omega)).trans e1, (Below.heap_alloc _ D _ (by omega)).trans e2, (Below.heap_alloc _ D _ (by omega)).trans e3, e4⟩
theorem below4 (w : World) (A B C D : Obj) : Below w.heap.size w ((((w.alloc A).alloc B).alloc C).alloc D) :=
  ((((Below.refl _ _).alloc (Nat.le_refl _) _).alloc (by simp) _).alloc (by simp; omega) _).alloc (by simp; omega) _
structure Ad (w W : World) (t : TypeId) (m n : Nat) (f : Nat → Nat) : Prop where
  a : Nd W w.heap.size t 4 (wd m)
  b : Nd W (w.heap.size + 1) t 4 (wd n)
  r : W.heap[w.heap.size + 1 + 1]? = some (.cells (wn 0) t (0, 0))
  o : Nd W (w.heap.size + 1 + 1 + 1) t 4 f
  bel : Below w.heap.size w W
theorem Ad.start (w : World) (t : TypeId) (m n : Nat) : Ad w ((((w.alloc (.cells (wn m) t)).alloc (.cells (wn n) t)).alloc (.cells (wn 0) t)).alloc (.cells (wn 0) t)) t m n (wd 0) := by
  obtain ⟨e1, e2, e3, e4⟩ := blk4 w (.cells (wn m) t) (.cells (wn n) t) (.cells (wn 0) t) (.cells (wn 0) t)
  exact ⟨Nd.of_heap e1, Nd.of_heap e2, e3, Nd.of_heap e4, below4 w _ _ _ _⟩
theorem Ad.set {w W : World} {t : TypeId} {m n : Nat} {f : Nat → Nat} (j : Ad w W t m n f) (i x : Nat) : Ad w (W.setCell ⟨w.heap.size + 1 + 1 + 1, i, none⟩ (.int .u64 ((x : Nat) : Int))) t m n (fun k => if k = i then x else f k) :=
  ⟨j.a.other (by omega) _ _, j.b.other (by omega) _ _, (Below.heap_setCell _ _ _ _ (by simp)).trans j.r, j.o.set i x, j.bel.setCell (by simp; omega) _⟩
theorem Ad.drew {w W : World} {t : TypeId} {m n : Nat} {f : Nat → Nat} (j : Ad w W t m n f) : Ad w W.drew t m n f := ⟨j.a, j.b, j.r, j.o, j.bel.drew⟩
theorem Ad.congr {w W : World} {t : TypeId} {m n : Nat} {f f' : Nat → Nat} (j : Ad w W t m n f) (e : ∀ i, i < 4 → f i = f' i) : Ad w W t m n f' := ⟨j.a, j.b, j.r, j.o.congr e, j.bel⟩
def wf (N i j : Nat) : Nat := if j < i then wd N j else 0
theorem wf_zero (N j : Nat) : wd 0 j = wf N 0 j := by simp [wf, wd, dg_zero]
theorem wf_step (N i j : Nat) : (if j = i then wd N i else wf N i j) = wf N (i + 1) j := by
  unfold wf
  by_cases e : j = i
  · rw [if_pos e, if_pos (by omega), e]
  · rw [if_neg e]
    by_cases e2 : j < i
    · rw [if_pos e2, if_pos (by omega)]
    · rw [if_neg e2, if_neg (by omega)]
theorem wf_four (N j : Nat) (h : j < 4) : wf N 4 j = wd N j := by rw [wf, if_pos h]
theorem cy_end (m n : Nat) (hm : m < M) (hn : n < M) : cy m n 4 = if M ≤ m + n then 1 else 0 := by
  unfold cy
  rw [← M_eq, Nat.mod_eq_of_lt hm, Nat.mod_eq_of_lt hn]
  have := M_pos
  split
  · rename_i h
    rw [Nat.div_eq_sub_div this h, Nat.div_eq_of_lt (by omega)]
  · rename_i h
    rw [Nat.div_eq_of_lt (by omega)]
section
set_option maxRecDepth 10000
set_option maxHeartbeats 1000000
theorem wadd_any (m n : Nat) (hm : m < M) (hn : n < M) (w : World) : Calls Tryz.prog 181 #[.agg (wn m), .agg (wn n)] w fun e w' => e = .returned (.tuple #[.agg (wn (m + n)), .bool (decide (M ≤ m + n))]) ∧ Below w.heap.size w w' := by
  have J0 := hide ((Ad.start w 51 m n).congr (fun i _ => wf_zero (m + n) i))
  go_enter Tryz.func181, Tryz.ntmps181
  go_wp2_with (first | refine wpList_boxA rfl _ rfl (wn m) rfl ?_ | refine wpList_boxA rfl _ rfl (wn n) rfl ?_ | refine wpList_allocA AW rfl rfl ?_)
  generalize (((w.alloc (.cells (wn m) 51)).alloc (.cells (wn n) 51)).alloc (.cells (wn 0) 51)).alloc (.cells (wn 0) 51) = W0 at *
  go_loopw [7, 8, 9] (fun c _ d wr => ∃ i : Nat, i ≤ 4 ∧ c = .int .u64 ((cy m n i : Nat) : Int) ∧ d = .int .i64 i ∧ Hid (Ad w wr 51 m n (wf (m + n) i))) (fun _ _ d _ => (4 - intOf d).toNat)
  case atStart => exact ⟨0, by omega, by rw [cy_zero]; rfl, rfl, J0⟩
  case round =>
    clear J0
    obtain ⟨i, hi, rfl, rfl, J⟩ := hrel
    by_cases hlt : i < 4
    · have ha := J.out.a.cell hlt
      have hb := J.out.b.cell hlt
      have ho := J.out.o.cell hlt
      have hf := J.out.o.fz i
      have hi4 : (i : Int) < 4 := by omega
      have hC := fun W => add64_run (wd m i) (wd n i) _ (cy_le m n i) W
      rw [add_word, cy_step] at hC
      go_upto_region 6 with fail
      go_region_with (simp only [hC])
      all_goals (go_wp2; exact ⟨⟨i + 1, by omega, rfl, by go_num, hide ((J.out.drew.set i _).congr (fun k _ => wf_step (m + n) i k))⟩, by simp [intOf]; omega⟩)
    · have hke : i = 4 := by omega
      subst hke
      have H2 := (J.out.o.congr (wf_four (m + n))).heap
      have hE : (((cy m n 4 : Nat) : Int) != 0) = decide (M ≤ m + n) := by
        rw [cy_end m n hm hn]
        by_cases h : M ≤ m + n <;> simp [h]
      generalize cy m n 4 = c at *
      go_wp2_with (first | refine wpList_loadA AW rfl _ rfl _ rfl (wn (m + n)) (wn_size _) 51 H2 ?_ | refine wpList_storeA AW rfl _ _ rfl _ (wn (m + n)) (wn_size _) (wn_one _) rfl rfl (wn 0) (wn_size 0) 51 J.out.r ?_)
      exact bodyPost_ret (v := .tuple #[.agg (wn (m + n)), .bool (decide (M ≤ m + n))]) (resA2 AW Tryz.results181 _ _ (w.heap.size + 1 + 1) 51 (wn (m + n)) (wn_size _) rfl (setRow_heap _ _ _ _ _ _ J.out.r) _ (by rfl)) rfl ⟨rfl, below_setRow J.out.bel (by omega) _⟩
end
theorem size22 (w : World) : (sizeOf 49).run Tryz.prog w = .ok 1 w := by kernel_rfl
theorem eqgW : Tryz.prog.eqGuardType Tryz.prog.depth 51 = false := by kernel_rfl
set_option maxRecDepth 20000 in
theorem eq_nc (t : TypeId) (k : Nat) (ht : Tryz.prog.underlying t = some (.array k 49)) (f g : Nat → Nat) (w : World) : (Op.equalIn 10000 t (.agg (nc k f)) (.agg (nc k g))).run Tryz.prog w = .ok ((List.range k).all fun i => f i == g i) w := by
  rw [List.range_eq_range', Op.equalIn]
  simp only [Sem.run_bind, run_underlying ht, Result.andThen_ok, size22, Std.Legacy.Range.forIn_eq_forIn_range', Std.Legacy.Range.size, Nat.sub_zero, Nat.add_sub_cancel, Nat.div_one]
  have hr : ∀ i ∈ List.range' 0 k 1, i < k := fun i hi => by simpa using (List.mem_range'_1.1 hi).2
  generalize List.range' 0 k 1 = r at hr ⊢
  induction r with
  | nil => simp
  | cons i r ih =>
    have hi : i < k := hr i (by simp)
    have hp : ∀ h : Nat → Nat, (Go.part 49 (nc k h) (i * 1)).run Tryz.prog w = .ok (.int .u64 ((h i : Nat) : Int)) w := fun h => by
      simp [Go.part, isAgg, run_underlying Tryz.underlying49, nc_at k h i hi]
    have he : (Op.equalIn 9999 49 (.int .u64 ((f i : Nat) : Int)) (.int .u64 ((g i : Nat) : Int))).run Tryz.prog w = .ok (f i == g i) w := by
      rw [run_equalIn_int w 9998 49 .u64 .u64 _ _ Tryz.underlying49]
      congr 1
      rw [Bool.eq_iff_iff]
      simp
      omega
    simp only [List.forIn_cons, Sem.run_bind, hp, he, Result.andThen_ok, List.all_cons]
    cases hb : (f i == g i)
    · simp
    · simp only [Bool.not_true, Bool.false_eq_true, if_false, Sem.run_pure, Result.andThen_ok, Bool.true_and]
      exact ih fun j hj => hr j (by simp [hj])
theorem all_words (m n : Nat) (hm : m < M) (hn : n < M) : ((List.range 4).all fun i => wd m i == wd n i) = decide (m = n) := by
  rw [Bool.eq_iff_iff]
  simp only [List.all_eq_true, List.mem_range, beq_iff_eq, decide_eq_true_eq]
  exact ⟨fun h => wd_ext hm hn h, fun h i _ => by rw [h]⟩
theorem eqW (m n : Nat) (hm : m < M) (hn : n < M) (w : World) : (Op.equalIn 10000 51 (.agg (wn m)) (.agg (wn n))).run Tryz.prog w = .ok (decide (m = n)) w := by
  rw [← all_words m n hm hn]
  exact eq_nc _ 4 Tryz.underlying51 _ _ w
theorem wd_small (x : Nat) (h : x < 18446744073709551616) : wd x 0 = x ∧ wd x 1 = 0 ∧ wd x 2 = 0 ∧ wd x 3 = 0 := by
  simp only [wd, dg]
  omega
theorem wn_four (n : Nat) : wn n = #[.int .u64 ((wd n 0 : Nat) : Int), .int .u64 ((wd n 1 : Nat) : Int), .int .u64 ((wd n 2 : Nat) : Int), .int .u64 ((wd n 3 : Nat) : Int)] := rfl
theorem wn_small (x : Nat) (h : x < 18446744073709551616) : wn x = #[.int .u64 (x : Int), .int .u64 0, .int .u64 0, .int .u64 0] := by
  obtain ⟨h0, h1, h2, h3⟩ := wd_small x h
  rw [wn_four, h0, h1, h2, h3]
  rfl
theorem run_buildW (x : Nat) (h : x < 18446744073709551616) (w : World) : (Instr.build 51 #[(0, .int .u64 (x : Int))]).run Tryz.prog w = .ok (.agg (wn x)) w := by
  rw [wn_small x h]
  kernel_rfl
section
variable {w : World} {ops : Array Oper} {rest : List Oper} {o : Oper} {a : Act} {Q : Exit → Act → World → Prop} {t : TypeId} {n : Nat} {z : Array Value}
theorem wpList_build1 (hw : Region.wanted o (yielded ops a.tmps) = true) (x : Operand) (ho : o.op = .build t #[(0, x)]) (X : Int) (c : Array Value) (hr : ∀ W, (Instr.build t #[(0, .int .u64 X)]).run Tryz.prog W = .ok (.agg c) W) (hx : a.eval x = .int .u64 X)
    (h : wpList Tryz.prog ops Q rest (a.put o.dst (.agg c)) w) : wpList Tryz.prog ops Q (o :: rest) a w := by
  refine wpList_step fun K hK => ?_
  rw [if_pos hw]
  unfold Oper.wp execOp
  simp only [ho, List.map_toArray, List.map_cons, List.map_nil, hx, hr w, Sem.run_bind, Result.andThen_ok, Sem.run_pure]
  exact hK _ _ h
end
def df (m n : Nat) : Nat := m + M - n
theorem wd_M (m i : Nat) (h : i < 4) : wd (m + M) i = wd m i := by
  rw [← wd_mod (m + M) i h, Nat.add_mod_right, wd_mod m i h]
theorem df_add (m n : Nat) (hn : n < M) : df m n + n = m + M := by unfold df; omega
theorem df_word (m n i : Nat) (hn : n < M) (h : i < 4) : wd m i = (wd (df m n) i + wd n i + cy (df m n) n i) % 18446744073709551616 := by
  rw [add_word, df_add m n hn, wd_M m i h]
theorem df_run (x d y c : Nat) (hd : d < 18446744073709551616) (hy : y < 18446744073709551616) (hc : c ≤ 1) (hx : x = (d + y + c) % 18446744073709551616) : (x + 18446744073709551616 - y - c) % 18446744073709551616 = d ∧ (if x < y + c then 1 else 0) = (d + y + c) / 18446744073709551616 := by
  subst hx
  refine ⟨by omega, ?_⟩
  split <;> omega
theorem df_sub (m n i : Nat) (hn : n < M) (h : i < 4) : (wd m i + 18446744073709551616 - wd n i - cy (df m n) n i) % 18446744073709551616 = wd (df m n) i ∧ (if wd m i < wd n i + cy (df m n) n i then 1 else 0) = cy (df m n) n (i + 1) := by
  rw [← cy_step]
  exact df_run _ _ _ _ (wd_lt _ _) (wd_lt _ _) (cy_le _ _ _) (df_word m n i hn h)
theorem df_end (m n : Nat) (hm : m < M) (hn : n < M) : cy (df m n) n 4 = if m < n then 1 else 0 := by
  unfold cy df
  rw [← M_eq, Nat.mod_eq_of_lt hn]
  split
  · rename_i h
    rw [Nat.mod_eq_of_lt (by omega), show m + M - n + n = M + m by omega, Nat.add_div_left _ M_pos, Nat.div_eq_of_lt hm]
  · rename_i h
    rw [show m + M - n = m - n + M by omega, Nat.add_mod_right, Nat.mod_eq_of_lt (by omega), show m - n + n = m by omega, Nat.div_eq_of_lt hm]
section
set_option maxRecDepth 10000
set_option maxHeartbeats 1000000
theorem wsub_any (m n : Nat) (hm : m < M) (hn : n < M) (w : World) : Calls Tryz.prog 235 #[.agg (wn m), .agg (wn n)] w fun e w' => e = .returned (.tuple #[.agg (wn (df m n)), .bool (decide (m < n))]) ∧ Below w.heap.size w w' := by
  have J0 := hide ((Ad.start w 51 m n).congr (fun i _ => wf_zero (df m n) i))
  go_enter Tryz.func235, Tryz.ntmps235
  go_wp2_with (first | refine wpList_boxA rfl _ rfl (wn m) rfl ?_ | refine wpList_boxA rfl _ rfl (wn n) rfl ?_ | refine wpList_allocA AW rfl rfl ?_)
  generalize (((w.alloc (.cells (wn m) 51)).alloc (.cells (wn n) 51)).alloc (.cells (wn 0) 51)).alloc (.cells (wn 0) 51) = W0 at *
  go_loopw [7, 8, 9] (fun c _ d wr => ∃ i : Nat, i ≤ 4 ∧ c = .int .u64 ((cy (df m n) n i : Nat) : Int) ∧ d = .int .i64 i ∧ Hid (Ad w wr 51 m n (wf (df m n) i))) (fun _ _ d _ => (4 - intOf d).toNat)
  case atStart => exact ⟨0, by omega, by rw [cy_zero]; rfl, rfl, J0⟩
  case round =>
    clear J0
    obtain ⟨i, hi, rfl, rfl, J⟩ := hrel
    by_cases hlt : i < 4
    · have ha := J.out.a.cell hlt
      have hb := J.out.b.cell hlt
      have ho := J.out.o.cell hlt
      have hf := J.out.o.fz i
      have hi4 : (i : Int) < 4 := by omega
      have hC := fun W => sub64_run (wd m i) (wd n i) _ (cy_le (df m n) n i) W
      rw [(df_sub m n i hn hlt).1, (df_sub m n i hn hlt).2] at hC
      generalize hd : df m n = D at *
      clear hd
      go_upto_region 6 with fail
      go_region_with (simp only [hC])
      all_goals (go_wp2; exact ⟨⟨i + 1, by omega, rfl, by go_num, hide ((J.out.drew.set i _).congr (fun k _ => wf_step D i k))⟩, by simp [intOf]; omega⟩)
    · have hke : i = 4 := by omega
      subst hke
      have H2 := (J.out.o.congr (wf_four (df m n))).heap
      have hE : (((cy (df m n) n 4 : Nat) : Int) != 0) = decide (m < n) := by
        rw [df_end m n hm hn]
        by_cases h : m < n <;> simp [h]
      generalize cy (df m n) n 4 = c at *
      go_wp2_with (first | refine wpList_loadA AW rfl _ rfl _ rfl (wn (df m n)) (wn_size _) 51 H2 ?_ | refine wpList_storeA AW rfl _ _ rfl _ (wn (df m n)) (wn_size _) (wn_one _) rfl rfl (wn 0) (wn_size 0) 51 J.out.r ?_)
      exact bodyPost_ret (v := .tuple #[.agg (wn (df m n)), .bool (decide (m < n))]) (resA2 AW Tryz.results235 _ _ (w.heap.size + 1 + 1) 51 (wn (df m n)) (wn_size _) rfl (setRow_heap _ _ _ _ _ _ J.out.r) _ (by rfl)) rfl ⟨rfl, below_setRow J.out.bel (by omega) _⟩
theorem from_any (x : Nat) (hx : x < 18446744073709551616) (w : World) : Calls Tryz.prog 182 #[.int .u64 (x : Int)] w fun e w' => e = .returned (.agg (wn x)) ∧ Below w.heap.size w w' := by
  have HB := hide fun W => run_buildW x hx W
  go_enter Tryz.func182, Tryz.ntmps182
  go_wp2_with (first | refine wpList_allocA AW rfl rfl ?_ | refine wpList_build1 rfl _ rfl _ (wn x) HB.out rfl ?_ | refine wpList_store_newA AW rfl _ _ rfl _ rfl (wn x) (wn_size _) (wn_one _) rfl rfl ?_)
  exact bodyPost_ret (v := .agg (wn x)) (resA AW Tryz.results182 _ _ w.heap.size 51 (wn x) (wn_size _) rfl (heap_alloc_last _ _)) rfl ⟨rfl, (Below.refl _ _).alloc (Nat.le_refl _) _⟩
theorem zero_any (m : Nat) (hm : m < M) (w : World) : Calls Tryz.prog 178 #[.agg (wn m)] w fun e w' => e = .returned (.bool (decide (m = 0))) ∧ Below w.heap.size w w' := by
  have HE := hide fun W => eqW m 0 hm M_pos W
  have H1 := hide (heap_alloc_last w (.cells (wn m) 51))
  generalize decide (m = 0) = v at *
  go_enter Tryz.func178, Tryz.ntmps178
  go_wp2_with (first | refine wpList_boxA rfl _ rfl (wn m) rfl ?_ | refine wpList_loadA AW rfl _ rfl _ rfl (wn m) (wn_size _) 51 H1.out ?_ | refine wpList_buildA AW rfl rfl ?_ | refine wpList_eql 51 _ _ _ rfl (wn m) (wn 0) rfl rfl rfl eqgW v HE.out ?_)
  go_ret
  exact ⟨rfl, (Below.refl _ _).alloc (Nat.le_refl _) _⟩
def cmpZ (m n : Nat) : Int := if m < n then -1 else if m = n then 0 else 1
theorem compare_any (m n : Nat) (hm : m < M) (hn : n < M) (w : World) : Calls Tryz.prog 179 #[.agg (wn m), .agg (wn n)] w fun e w' => e = .returned (.int .i64 (cmpZ m n)) ∧ Below w.heap.size w w' := by
  have HE := hide fun W => eqW m n hm hn W
  obtain ⟨e1, e2⟩ := blk2x w (.cells (wn m) 51) (.cells (wn n) 51)
  have H1 := hide e1
  have H2 := hide e2
  have BB := hide (below2x w (.cells (wn m) 51) (.cells (wn n) 51))
  have HS := hide fun W => wsub_any m n hm hn W
  clear e1 e2
  by_cases h0 : m = n
  · have hv : decide (m = n) = true := by simp [h0]
    rw [hv] at HE
    have hz : cmpZ m n = 0 := by simp [cmpZ, h0]
    rw [hz]
    clear h0 hv hz
    go_enter Tryz.func179, Tryz.ntmps179
    go_wp2_with (first | refine wpList_boxA rfl _ rfl (wn m) rfl ?_ | refine wpList_boxA rfl _ rfl (wn n) rfl ?_ | refine wpList_loadA AW rfl _ rfl _ rfl (wn m) (wn_size _) 51 H1.out ?_ | refine wpList_loadA AW rfl _ rfl _ rfl (wn n) (wn_size _) 51 H2.out ?_ | refine wpList_eql 51 _ _ _ rfl (wn m) (wn n) rfl rfl rfl eqgW true HE.out ?_)
    go_ret
    exact ⟨rfl, BB.out⟩
  · have hv : decide (m = n) = false := by simp [h0]
    rw [hv] at HE
    by_cases hlt : m < n
    · have hz : cmpZ m n = -1 := by simp [cmpZ, hlt]
      have hd : decide (m < n) = true := by simp [hlt]
      rw [hd] at HS
      rw [hz]
      generalize df m n = D at *
      clear h0 hv hlt hd hz
      go_enter Tryz.func179, Tryz.ntmps179
      go_wp2_with (first | refine wpList_boxA rfl _ rfl (wn m) rfl ?_ | refine wpList_boxA rfl _ rfl (wn n) rfl ?_ | refine wpList_loadA AW rfl _ rfl _ rfl (wn m) (wn_size _) 51 H1.out ?_ | refine wpList_loadA AW rfl _ rfl _ rfl (wn n) (wn_size _) 51 H2.out ?_ | refine wpList_eql 51 _ _ _ rfl (wn m) (wn n) rfl rfl rfl eqgW false HE.out ?_ | (go_at_call 235; refine (HS.out _).mono ?_; rintro e w1 ⟨rfl, b1⟩; have B1 := hide (below_next BB.out b1)) | refine wpList_allocA AW rfl rfl ?_ | refine wpList_store_newA AW rfl _ _ rfl _ rfl (wn D) (wn_size _) (wn_one _) rfl rfl ?_)
      go_ret
      exact ⟨rfl, below_next B1.out ((Below.refl _ _).alloc (Nat.le_refl _) _)⟩
    · have hz : cmpZ m n = 1 := by simp [cmpZ, hlt, h0]
      have hd : decide (m < n) = false := by simp [hlt]
      rw [hd] at HS
      rw [hz]
      generalize df m n = D at *
      clear h0 hv hlt hd hz
      go_enter Tryz.func179, Tryz.ntmps179
      go_wp2_with (first | refine wpList_boxA rfl _ rfl (wn m) rfl ?_ | refine wpList_boxA rfl _ rfl (wn n) rfl ?_ | refine wpList_loadA AW rfl _ rfl _ rfl (wn m) (wn_size _) 51 H1.out ?_ | refine wpList_loadA AW rfl _ rfl _ rfl (wn n) (wn_size _) 51 H2.out ?_ | refine wpList_eql 51 _ _ _ rfl (wn m) (wn n) rfl rfl rfl eqgW false HE.out ?_ | (go_at_call 235; refine (HS.out _).mono ?_; rintro e w1 ⟨rfl, b1⟩; have B1 := hide (below_next BB.out b1)) | refine wpList_allocA AW rfl rfl ?_ | refine wpList_store_newA AW rfl _ _ rfl _ rfl (wn D) (wn_size _) (wn_one _) rfl rfl ?_)
      go_ret
      exact ⟨rfl, below_next B1.out ((Below.refl _ _).alloc (Nat.le_refl _) _)⟩
end
end Go.Proofs.YtcoojkpimbddlaaGreatDoor
namespace Go.Proofs.YtcoojkpimbddlaaGreatDoor
structure Gs (v1 v0 u x q r : Nat) : Prop where
  sum : q * v1 + r = u
  ge : (u * 4294967296 + x) / (v1 * 4294967296 + v0) ≤ q
  le : q ≤ 4294967297
  r : r < 4294967296
section
variable {v1 v0 u x q r : Nat}
theorem Gs.prod (h : Gs v1 v0 u x q r) : q * (v1 * 4294967296 + v0) + r * 4294967296 = u * 4294967296 + q * v0 := by
  rw [← h.sum, Nat.mul_add, Nat.add_mul, Nat.mul_assoc]
  omega
theorem Gs.start (h1 : 2147483648 ≤ v1) (h0 : v0 < 4294967296) (hv1 : v1 < 4294967296) (hu : u < v1 * 4294967296 + v0) (hx : x < 4294967296) : Gs v1 v0 u x (u / v1) (u % v1) := by
  have hp : 0 < v1 := by omega
  refine ⟨by rw [Nat.mul_comm]; exact Nat.div_add_mod u v1, ?_, ?_, ?_⟩
  · apply Nat.le_of_lt_succ
    rw [Nat.div_lt_iff_lt_mul (by omega)]
    have e := Nat.div_add_mod u v1
    have hm := Nat.mod_lt u hp
    have e2 : (u / v1 + 1) * (v1 * 4294967296 + v0) = (v1 * (u / v1) + v1) * 4294967296 + (u / v1 + 1) * v0 := by
      rw [Nat.mul_add, ← Nat.mul_assoc, Nat.add_mul (u / v1) 1 v1, Nat.one_mul, Nat.mul_comm (u / v1) v1]
    rw [Nat.succ_eq_add_one, e2]
    omega
  · have : u / v1 < 4294967298 := by
      rw [Nat.div_lt_iff_lt_mul hp]
      omega
    omega
  · have := Nat.mod_lt u hp
    omega
theorem Gs.done (h : Gs v1 v0 u x q r) (h1 : 0 < v1 * 4294967296 + v0) (ht : q * v0 ≤ 4294967296 * r + x) : q = (u * 4294967296 + x) / (v1 * 4294967296 + v0) := by
  have hp := h.prod
  refine Nat.le_antisymm ?_ h.ge
  rw [Nat.le_div_iff_mul_le h1]
  omega
theorem Gs.down (h : Gs v1 v0 u x q r) (_ : 2147483648 ≤ v1) (hu : u < v1 * 4294967296 + v0) (hx : x < 4294967296) (ht : 4294967296 ≤ q ∨ 4294967296 * r + x < q * v0) : (u * 4294967296 + x) / (v1 * 4294967296 + v0) ≤ q - 1 ∧ 1 ≤ q ∧ (q - 1) * v1 + (r + v1) = u := by
  have hp := h.prod
  have hq : 1 ≤ q := by
    rcases ht with ht | ht
    · omega
    · rcases Nat.eq_zero_or_pos q with h0 | h0
      · subst h0
        omega
      · omega
  refine ⟨?_, hq, ?_⟩
  · have : (u * 4294967296 + x) / (v1 * 4294967296 + v0) < q := by
      rcases ht with ht | ht
      · refine Nat.lt_of_lt_of_le ?_ ht
        rw [Nat.div_lt_iff_lt_mul (by omega)]
        omega
      · rw [Nat.div_lt_iff_lt_mul (by omega)]
        omega
    omega
  · obtain ⟨k, rfl⟩ : ∃ k, q = k + 1 := ⟨q - 1, by omega⟩
    have := h.sum
    rw [Nat.add_mul] at this
    rw [Nat.add_sub_cancel]
    omega
theorem Gs.next (h : Gs v1 v0 u x q r) (h1 : 2147483648 ≤ v1) (hu : u < v1 * 4294967296 + v0) (hx : x < 4294967296) (ht : 4294967296 ≤ q ∨ 4294967296 * r + x < q * v0) (hr : r + v1 < 4294967296) : Gs v1 v0 u x (q - 1) (r + v1) := by
  obtain ⟨a, b, c⟩ := h.down h1 hu hx ht
  have := h.le
  exact ⟨c, a, by omega, hr⟩
theorem Gs.out (h : Gs v1 v0 u x q r) (h1 : 2147483648 ≤ v1) (h0 : v0 < 4294967296) (hu : u < v1 * 4294967296 + v0) (hx : x < 4294967296) (ht : 4294967296 ≤ q ∨ 4294967296 * r + x < q * v0) (hr : 4294967296 ≤ r + v1) : q - 1 = (u * 4294967296 + x) / (v1 * 4294967296 + v0) := by
  obtain ⟨a, b, c⟩ := h.down h1 hu hx ht
  have hl := h.le
  refine Nat.le_antisymm ?_ a
  rw [Nat.le_div_iff_mul_le (by omega)]
  have e : (q - 1) * (v1 * 4294967296 + v0) = ((q - 1) * v1) * 4294967296 + (q - 1) * v0 := by rw [Nat.mul_add, Nat.mul_assoc]
  have f : (q - 1) * v0 ≤ 4294967296 * 4294967295 := Nat.mul_le_mul (by omega) (by omega)
  rw [e]
  generalize (q - 1) * v1 = A at *
  generalize (q - 1) * v0 = B at *
  omega
end
theorem rest_word (u x q v : Nat) (hv : v < 18446744073709551616) (hp : 0 < v) (hq : q = (u * 4294967296 + x) / v) : ((u : Int) * 4294967296 + x - q * v) % 18446744073709551616 = (((u * 4294967296 + x) % v : Nat) : Int) := by
  subst hq
  have e := Nat.div_add_mod (u * 4294967296 + x) v
  have hm := Nat.mod_lt (u * 4294967296 + x) hp
  rw [Nat.mul_comm v] at e
  have e2 : (((u * 4294967296 + x) / v : Nat) : Int) * v = (((u * 4294967296 + x) / v * v : Nat) : Int) := by rw [Int.natCast_mul]
  rw [e2]
  generalize (u * 4294967296 + x) / v * v = A at *
  generalize (u * 4294967296 + x) % v = R at *
  omega
theorem two_steps (u x1 x0 v : Nat) (hp : 0 < v) : (u * 4294967296 + x1) / v * 4294967296 + ((u * 4294967296 + x1) % v * 4294967296 + x0) / v = (u * 18446744073709551616 + (x1 * 4294967296 + x0)) / v ∧ ((u * 4294967296 + x1) % v * 4294967296 + x0) % v = (u * 18446744073709551616 + (x1 * 4294967296 + x0)) % v := by
  have e := Nat.div_add_mod (u * 4294967296 + x1) v
  have e2 : u * 18446744073709551616 + (x1 * 4294967296 + x0) = v * ((u * 4294967296 + x1) / v * 4294967296) + ((u * 4294967296 + x1) % v * 4294967296 + x0) := by
    rw [← Nat.mul_assoc]
    omega
  rw [e2]
  exact ⟨(Nat.mul_add_div hp _ _).symm, (Nat.mul_add_mod _ _ _).symm⟩
end Go.Proofs.YtcoojkpimbddlaaGreatDoor
namespace Go.Proofs.YtcoojkpimbddlaaGreatDoor
open Go.RowKit
open Go.Deep
theorem low32 (x : Nat) (h : x < 18446744073709551616) : bits .and .u64 (x : Int) 4294967295 = (x : Int) % 4294967296 := and_low32 _ (by omega) (by omega)
section
set_option maxRecDepth 10000
set_option maxHeartbeats 1000000
theorem wpList_len8 {w : World} {ops : Array Oper} {rest : List Oper} {o : Oper} {a : Act} {Q : Exit → Act → World → Prop} (hgd : o.guard = none) (T : ByteArray) (x : Operand) (ho : o.op = .index 9 (.const (.string T)) x) (X : Int) (hx : a.eval x = .int .u8 X) (j : Nat) (hX : X = j) (hj : j < 256)
    (hT : ∀ k : Fin 256, T.data[k.val]?.map (·.toNat) = some (bl k.val))
    (h : wpList Tryz.prog ops Q rest (a.put o.dst (.int .u8 ((bl j : Nat) : Int))) w) : wpList Tryz.prog ops Q (o :: rest) a w := by
  subst hX
  refine wpList_plain hgd fun K hK => ?_
  have e := hT ⟨j, hj⟩
  simp only [Option.map_eq_some_iff] at e
  obtain ⟨b, hb, hbl⟩ := e
  have hlt : j < T.size := by
    rcases Nat.lt_or_ge j T.data.size with h' | h'
    · exact h'
    · rw [Array.getElem?_eq_none h'] at hb
      cases hb
  have hg : T[j] = b := by
    have h2 := Array.getElem?_eq_getElem (xs := T.data) (i := j) hlt
    rw [hb] at h2
    exact (Option.some.inj h2).symm
  have hr : (Instr.index 9 (.string T) (.int .u8 (j : Int))).run Tryz.prog w = .ok (.int .u8 ((bl j : Nat) : Int)) w := by
    rw [run_index_string w _ _ _ _ Tryz.underlying9, dif_pos ⟨by omega, by omega⟩]
    simp [hg, hbl]
  have hc : a.eval (.const (.string T)) = .string T := rfl
  unfold Oper.wp execOp
  simp only [ho, hc, hx, hr, Sem.run_bind, Result.andThen_ok, Sem.run_pure]
  exact hK _ _ h
theorem bl_int (Y : Int) (k : Nat) (c : Int) (hc : c = ((2 ^ k : Nat) : Int)) (h : c ≤ Y) : bl Y.toNat = k + bl (Y / c).toNat := by
  subst hc
  obtain ⟨y, rfl⟩ := Int.eq_ofNat_of_zero_le (Int.le_trans (Int.natCast_nonneg _) h)
  rw [Int.toNat_natCast, ← Int.natCast_ediv, Int.toNat_natCast]
  exact bl_shift y k (by omega)
theorem len_sum (k : Nat) (hk : k ≤ 64) (Y Z : Int) (h1 : Y < 18446744073709551616) (h : bl Z.toNat = k + bl Y.toNat) : wrap64 ((k : Int) + wrap64 ((bl Y.toNat : Nat) : Int)) = ((bl Z.toNat : Nat) : Int) := by
  have hb : bl Y.toNat ≤ 64 := bl_le_of _ 64 (by omega)
  rw [h]
  unfold wrap64
  omega
theorem len64_int (X : Int) (h0 : 0 ≤ X) (h1 : X < 18446744073709551616) (w : World) : Calls Tryz.prog 265 #[.int .u64 X] w fun e w' => e = .returned (.int .i64 ((bl X.toNat : Nat) : Int)) ∧ w' = w := by
  go_enter Tryz.func265, Tryz.ntmps265
  generalize hT0 : ByteArray.mk _ = T
  have hT : Hid (∀ k : Fin 256, T.data[k.val]?.map (·.toNat) = some (bl k.val)) := by
    subst hT0
    show ∀ k : Fin 256, _
    decide +kernel
  clear hT0
  go_wp2_with (refine wpList_len8 rfl _ _ rfl _ rfl (Int.toNat _) (Int.toNat_of_nonneg (by omega)).symm (by omega) hT.out ?_)
  all_goals go_ret
  all_goals refine ⟨ret_int ?_, rfl⟩
  · exact len_sum 56 (by omega) (X / 4294967296 / 65536 / 256) X (by omega) (by rw [bl_int X 32 4294967296 (by decide) (by omega), bl_int _ 16 65536 (by decide) (by omega), bl_int _ 8 256 (by decide) (by omega)]; omega)
  · exact len_sum 48 (by omega) (X / 4294967296 / 65536) X (by omega) (by rw [bl_int X 32 4294967296 (by decide) (by omega), bl_int _ 16 65536 (by decide) (by omega)]; omega)
  · exact len_sum 40 (by omega) (X / 4294967296 / 256) X (by omega) (by rw [bl_int X 32 4294967296 (by decide) (by omega), bl_int _ 8 256 (by decide) (by omega)]; omega)
  · exact len_sum 32 (by omega) (X / 4294967296) X (by omega) (by rw [bl_int X 32 4294967296 (by decide) (by omega)])
  · exact len_sum 24 (by omega) (X / 65536 / 256) X (by omega) (by rw [bl_int X 16 65536 (by decide) (by omega), bl_int _ 8 256 (by decide) (by omega)]; omega)
  · exact len_sum 16 (by omega) (X / 65536) X (by omega) (by rw [bl_int X 16 65536 (by decide) (by omega)])
  · exact len_sum 8 (by omega) (X / 256) X (by omega) (by rw [bl_int X 8 256 (by decide) (by omega)])
  · have := len_sum 0 (by omega) X X h1 (by omega)
    simpa using this
theorem lz64_int (X : Int) (h0 : 0 ≤ X) (h1 : X < 18446744073709551616) (w : World) : Calls Tryz.prog 317 #[.int .u64 X] w fun e w' => e = .returned (.int .i64 (64 - (bl X.toNat : Int))) ∧ w' = w := by
  have hb : bl X.toNat ≤ 64 := bl_le_of _ 64 (by omega)
  have hl := fun W => len64_int X h0 h1 W
  have hw : IntKind.i64.wrap (64 - (bl X.toNat : Int)) = 64 - (bl X.toNat : Int) := wrapI _ (by omega) (by omega)
  generalize bl X.toNat = b at *
  go_enter Tryz.func317, Tryz.ntmps317
  go_wp2_with (go_at_call 265; refine (hl _).mono ?_; rintro e w3 ⟨rfl, hw3⟩; subst w3)
  go_ret
  exact ⟨rfl, rfl⟩
end
end Go.Proofs.YtcoojkpimbddlaaGreatDoor
