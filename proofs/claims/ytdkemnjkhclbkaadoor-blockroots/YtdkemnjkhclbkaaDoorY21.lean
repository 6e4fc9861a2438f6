/- The contracts of the document's Of, raw and Limit. The contracts of the document's raw, Limit and Expand. Rows of any cells in a world, and classes of worlds that have them. The contracts of the document's Limit and Expand, Meets. The contract of the document's Sub. Regions that draw their order, with calls, new rows and stores into them: what is known of the rows in every order. The contracts of target.share and target.Work. -/
import Derived.Test.YtdkemnjkhclbkaaDoorY19
import Derived.Test.YtdkemnjkhclbkaaDoorY20
import Derived.Test.YtdkemnjkhclbkaaDoorY18
namespace Go.Proofs.YtdkemnjkhclbkaaDoor
open Go.RowKit
open Go.Deep
/-- The number of 32 bytes. -/
def hv (l : List UInt8) : Nat := vs 256 (by8 l) 32
theorem hv_lt (l : List UInt8) : hv l < M := by
  have := vs_lt (B := 256) (f := by8 l) (k := 32) (fun i _ => by8_lt l i)
  have e : M = 256 ^ 32 := by decide +kernel
  rw [e]
  exact this
/-- The digits below i, zeros behind. -/
def lowd (l : List UInt8) (i j : Nat) : Nat := if j < i then by8 l j else 0
theorem lowd_step (l : List UInt8) (i j : Nat) : (if j = i then by8 l i else lowd l i j) = lowd l (i + 1) j := by
  unfold lowd
  by_cases e : j = i
  · rw [if_pos e, if_pos (by omega), e]
  · rw [if_neg e]
    by_cases e2 : j < i
    · rw [if_pos e2, if_pos (by omega)]
    · rw [if_neg e2, if_neg (by omega)]
theorem lowd_end (l : List UInt8) (j : Nat) : lowd l 32 j = dg 256 (hv l) j := by
  unfold lowd hv
  split
  · rename_i h
    exact (dg_vs (fun i _ => by8_lt l i) j h).symm
  · rename_i h
    have h1 := vs_lt (B := 256) (f := by8 l) (k := 32) (fun i _ => by8_lt l i)
    have h2 : 256 ^ 32 ≤ 256 ^ j := Nat.pow_le_pow_right (by decide) (by omega)
    rw [dg, Nat.div_eq_of_lt (by omega), Nat.zero_mod]
/-- Bytes, an answer's place, and a row of ints. -/
structure On (w W : World) (t u : TypeId) (l : List UInt8) (f : Nat → Nat) : Prop where
  a : W.heap[w.heap.size]? = some (.cells (hc l) t (0, 0))
  r : W.heap[w.heap.size + 1]? = some (.cells (bn 0) u (0, 0))
  o : Ni W (w.heap.size + 1 + 1) u 40 f
  bel : Below w.heap.size w W
theorem On.start (w : World) (t u : TypeId) (l : List UInt8) : On w (((w.alloc (.cells (hc l) t)).alloc (.cells (bn 0) u)).alloc (.cells (bn 0) u)) t u l (dg 256 0) := by
  obtain ⟨e1, e2, e3⟩ := blk3 w (.cells (hc l) t) (.cells (bn 0) u) (.cells (bn 0) u)
  exact ⟨e1, e2, Ni.of_heap e3, below3 w _ _ _⟩
theorem On.set {w W : World} {t u : TypeId} {l : List UInt8} {f : Nat → Nat} (j : On w W t u l f) (i x : Nat) : On w (W.setCell ⟨w.heap.size + 1 + 1, i, none⟩ (.int .i64 ((x : Nat) : Int))) t u l (fun k => if k = i then x else f k) :=
  ⟨(Below.heap_setCell _ _ _ _ (by simp <;> omega)).trans j.a, (Below.heap_setCell _ _ _ _ (by simp <;> omega)).trans j.r, j.o.set i x, j.bel.setCell (by simp <;> omega) _⟩
theorem On.congr {w W : World} {t u : TypeId} {l : List UInt8} {f f' : Nat → Nat} (j : On w W t u l f) (e : ∀ i, i < 40 → f i = f' i) : On w W t u l f' := ⟨j.a, j.r, j.o.congr e, j.bel⟩
theorem A49 : Arr 23 32 (hc zeros) := ⟨.inl ⟨_, _, Tryd.underlying23⟩, by kernel_rfl, fun w => by kernel_rfl, fun w => by kernel_rfl, by rw [hc_size]; rfl⟩
theorem hc_cell {W : World} {g : Nat} {t : TypeId} {l : List UInt8} (h : W.heap[g]? = some (.cells (hc l) t (0, 0))) (i : Nat) (hi : i < l.length) : W.cell? ⟨g, i, none⟩ = some (.int .u8 (by8 l i : Int)) :=
  World.rowIs.cell (row_of (f := fun i => .int .u8 (by8 l i : Int)) (hc_size l) h (fun k hk => hc_at l k hk)) hi
section
set_option maxRecDepth 10000
set_option maxHeartbeats 2000000
end
end Go.Proofs.YtdkemnjkhclbkaaDoor
namespace Go.Proofs.YtdkemnjkhclbkaaDoor
open Go.RowKit
open Go.Deep
theorem pow8 (i : Nat) : 2 ^ (8 * i) = 256 ^ i := by rw [Nat.pow_mul]
/-- What raw has laid down behind i bytes. -/
def rawf (s u i j : Nat) : Nat := if s ≤ j + 3 ∧ j + 3 < s + i then dg 256 u (j + 3 - s) else 0
theorem rawf_zero (s u j : Nat) : dg 256 0 j = rawf s u 0 j := by rw [dg_zero, rawf, if_neg (by omega)]
theorem rawf_step (s u i k j : Nat) (h : k + 3 = s + i) : (if j = k then dg 256 u i else rawf s u i j) = rawf s u (i + 1) j := by
  unfold rawf
  by_cases e : j = k
  · rw [if_pos e, if_pos (by omega), show j + 3 - s = i by omega]
  · rw [if_neg e]
    by_cases e2 : s ≤ j + 3 ∧ j + 3 < s + i
    · rw [if_pos e2, if_pos (by omega)]
    · rw [if_neg e2, if_neg (by omega)]
theorem rawf_skip (s u i j : Nat) (hj : j < 40) (h : s + i < 3 ∨ 43 ≤ s + i) : rawf s u i j = rawf s u (i + 1) j := by
  unfold rawf
  by_cases e2 : s ≤ j + 3 ∧ j + 3 < s + i
  · rw [if_pos e2, if_pos (by omega)]
  · rw [if_neg e2, if_neg (by omega)]
theorem tgt_split (b : Nat) : tgt b = if b / 16777216 < 3 then b % 8388608 / 256 ^ (3 - b / 16777216) else b % 8388608 * 256 ^ (b / 16777216 - 3) := by
  unfold tgt
  rw [pow8, pow8]
theorem dg_high (u k : Nat) (hu : u < 8388608) (h : 3 ≤ k) : dg 256 u k = 0 := by
  have : 256 ^ 3 ≤ 256 ^ k := Nat.pow_le_pow_right (by decide) h
  rw [dg, Nat.div_eq_of_lt (by omega), Nat.zero_mod]
theorem rawf_end (b j : Nat) : rawf (b / 16777216) (b % 8388608) 3 j = dg 256 (tgt b) j := by
  have hu : b % 8388608 < 8388608 := by omega
  rw [tgt_split]
  generalize b % 8388608 = u at *
  generalize b / 16777216 = s at *
  unfold rawf
  split
  · rename_i h3
    split
    · rw [← dg_up]
      congr 1
      omega
    · rename_i h
      have e : 256 ^ j = 256 ^ (s - 3) * 256 ^ (j + 3 - s) := by rw [← Nat.pow_add]; congr 1; omega
      unfold dg
      rw [e, ← Nat.div_div_eq_div_mul, Nat.mul_div_cancel _ (Nat.pow_pos (by decide))]
  · rename_i h3
    split
    · rename_i h
      rw [← dg_up, dg_high u _ hu (by omega)]
    · rename_i h
      by_cases hj : j + 3 < s
      · have e : 256 ^ (s - 3) = 256 ^ j * (256 * 256 ^ (s - 3 - j - 1)) := by rw [← Nat.pow_succ', ← Nat.pow_add]; congr 1; omega
        rw [dg, e, Nat.mul_left_comm, Nat.mul_div_cancel_left _ (Nat.pow_pos (by decide)), Nat.mul_left_comm, Nat.mul_mod_right]
      · have e : 256 ^ j = 256 ^ (s - 3) * 256 ^ (j + 3 - s) := by rw [← Nat.pow_add]; congr 1; omega
        rw [dg, e, ← Nat.div_div_eq_div_mul, Nat.mul_div_cancel _ (Nat.pow_pos (by decide))]
        exact (dg_high u _ hu (by omega)).symm
theorem tgt_over (b i : Nat) (h3 : i < 3) (h : 43 ≤ b / 16777216 + i) (hd : dg 256 (b % 8388608) i ≠ 0) : ¬ tgt b < MB := by
  rw [tgt_split, if_neg (by omega)]
  unfold MB
  have h1 : 256 ^ i ≤ b % 8388608 := by
    rcases Nat.lt_or_ge (b % 8388608) (256 ^ i) with h' | h'
    · exact absurd (by rw [dg, Nat.div_eq_of_lt h', Nat.zero_mod]) hd
    · exact h'
  have h2 : 256 ^ 40 ≤ 256 ^ (i + (b / 16777216 - 3)) := Nat.pow_le_pow_right (by decide) (by omega)
  have h4 := Nat.mul_le_mul_right (256 ^ (b / 16777216 - 3)) h1
  rw [← Nat.pow_add] at h4
  omega
theorem tgt_fits (b : Nat) (hn : ∀ k, k < 3 → 43 ≤ b / 16777216 + k → dg 256 (b % 8388608) k = 0) : tgt b < MB := by
  have hu : b % 8388608 < 8388608 := by omega
  rw [tgt_split]
  generalize b % 8388608 = u at *
  generalize b / 16777216 = s at *
  split
  · have h1 := Nat.div_le_self u (256 ^ (3 - s))
    have h2 : 8388608 < MB := by decide +kernel
    omega
  · rename_i h3
    have h4 : u < 256 ^ (43 - s) := by
      have h40 := fun h => hn 0 (by omega) h
      have h41 := fun h => hn 1 (by omega) h
      have h42 := fun h => hn 2 (by omega) h
      unfold dg at h40 h41 h42
      rw [Nat.pow_zero] at h40
      rw [Nat.pow_one] at h41
      rw [show 256 ^ 2 = 65536 from rfl] at h42
      rcases (show 43 - s = 0 ∨ 43 - s = 1 ∨ 43 - s = 2 ∨ 3 ≤ 43 - s by omega) with h | h | h | h
      · rw [h, Nat.pow_zero]
        have := h40 (by omega)
        have := h41 (by omega)
        have := h42 (by omega)
        omega
      · rw [h, Nat.pow_one]
        have := h41 (by omega)
        have := h42 (by omega)
        omega
      · rw [h, show 256 ^ 2 = 65536 from rfl]
        have := h42 (by omega)
        omega
      · have : 256 ^ 3 ≤ 256 ^ (43 - s) := Nat.pow_le_pow_right (by decide) h
        omega
    rcases Nat.lt_or_ge s 44 with hs | hs
    · have h5 := Nat.mul_lt_mul_of_pos_right h4 (Nat.pow_pos (n := s - 3) (show 0 < 256 by decide))
      rw [← Nat.pow_add, show 43 - s + (s - 3) = 40 by omega] at h5
      exact h5
    · rw [show 43 - s = 0 by omega, Nat.pow_zero] at h4
      rw [show u = 0 by omega, Nat.zero_mul]
      exact MB_pos
section
set_option maxRecDepth 10000
set_option maxHeartbeats 2000000
end
end Go.Proofs.YtdkemnjkhclbkaaDoor
namespace Go.Proofs.YtdkemnjkhclbkaaDoor
open Go.RowKit
open Go.Deep
/-- Rows of cells: place, type, cells. -/
structure Rc (w W : World) (l : List (Nat × TypeId × Array Value)) : Prop where
  row : ∀ p ∈ l, W.heap[p.1]? = some (.cells p.2.2 p.2.1 (0, 0))
  bel : Below w.heap.size w W
section
variable {w W W' : World} {l : List (Nat × TypeId × Array Value)} {g : Nat} {t : TypeId} {c : Array Value}
theorem Rc.at (j : Rc w W l) (h : (g, t, c) ∈ l) : W.heap[g]? = some (.cells c t (0, 0)) := j.row _ h
theorem Rc.next (j : Rc w W l) (h : Below W.heap.size W W') : Rc w W' l := ⟨fun p hp => (h.block _ (lt_heap (j.row p hp))).trans (j.row p hp), below_next j.bel h⟩
theorem Rc.drew (j : Rc w W l) : Rc w W.drew l := ⟨j.row, j.bel.drew⟩
theorem Rc.cons (j : Rc w W l) (h : W.heap[g]? = some (.cells c t (0, 0))) : Rc w W ((g, t, c) :: l) := by
  refine ⟨fun p hp => ?_, j.bel⟩
  rcases List.mem_cons.1 hp with rfl | h2
  · exact h
  · exact j.row p h2
theorem Rc.new (j : Rc w W l) (t : TypeId) (c : Array Value) : Rc w (W.alloc (.cells c t)) ((W.heap.size, t, c) :: l) := (j.next (below_allocZ W _)).cons (heap_alloc_last _ _)
theorem Rc.nil (w : World) : Rc w w [] := ⟨fun p hp => absurd hp (by simp), Below.refl _ _⟩
theorem Rc.start1 (w : World) (t : TypeId) (c : Array Value) : Rc w (w.alloc (.cells c t)) [(w.heap.size, t, c)] := (Rc.nil w).new t c
theorem Rc.start2 (w : World) (t t' : TypeId) (c d : Array Value) : Rc w ((w.alloc (.cells c t)).alloc (.cells d t')) [(w.heap.size + 1, t', d), (w.heap.size, t, c)] := by
  have := (Rc.start1 w t c).new t' d
  rw [show (w.alloc (.cells c t)).heap.size = w.heap.size + 1 by simp] at this
  exact this
/-- Worlds in which these rows lie, as a class. -/
theorem Rc.cls (j : Rc w W l) : ∃ (I : Type) (_ : Nonempty I) (F : I → World) (i0 : I), W.drew = F i0 ∧ Hid (∀ i, Rc w (F i) l) ∧ Hid (∀ i W', Below (F i).heap.size (F i) W' → ∃ j, W' = F j) :=
  ⟨{W : World // Rc w W l}, ⟨⟨_, j⟩⟩, Subtype.val, ⟨W.drew, j.drew⟩, rfl, fun i => i.2, fun i W' b => ⟨⟨W', i.2.next b⟩, rfl⟩⟩
theorem Rc.of {I : Type} {F : I → World} (hJ : Hid (∀ i, Rc w (F i) l)) (h : (g, t, c) ∈ l) (W : World) (hC : ∃ i, W = F i) : W.heap[g]? = some (.cells c t (0, 0)) := by
  obtain ⟨i, rfl⟩ := hC
  exact (hJ.out i).at h
theorem Rc.put {l' : List (Nat × TypeId × Array Value)} (j : Rc w W l) (g : Nat) (t : TypeId) (c : Array Value) (h : ∃ y, (g, t, y) ∈ l) (hg : w.heap.size ≤ g) (hl : ∀ p ∈ l', p = (g, t, c) ∨ (p ∈ l ∧ p.1 ≠ g)) : Rc w (W.setRow g c) l' := by
  obtain ⟨y, hy⟩ := h
  refine ⟨fun p hp => ?_, below_setRow j.bel hg _⟩
  rcases hl p hp with rfl | ⟨h1, h2⟩
  · exact setRow_heap _ _ _ _ _ _ (j.at hy)
  · exact (setRow_other _ _ _ _ h2).trans (j.row p h1)
end
end Go.Proofs.YtdkemnjkhclbkaaDoor
namespace Go.Proofs.YtdkemnjkhclbkaaDoor
open Go.RowKit
open Go.Deep
theorem Lm_MB : Lm < MB := by decide +kernel
section
set_option maxRecDepth 10000
set_option maxHeartbeats 2000000
end
/-- What Expand tells: the target where it may be, else 0. -/
def xt (b : Nat) : Nat := if okB b then tgt b else 0
theorem okB_iff (b : Nat) : okB b = true ↔ b / 8388608 % 2 = 0 ∧ 0 < tgt b ∧ tgt b ≤ Lm := by
  unfold okB
  simp only [Bool.and_eq_true, decide_eq_true_eq]
  omega
theorem xt_le (b : Nat) : xt b ≤ Lm := by
  unfold xt
  split
  · rename_i h
    exact ((okB_iff b).1 h).2.2
  · exact Nat.zero_le _
theorem expand_any (b : Nat) (hb : b < 4294967296) (w : World) : Calls Tryd.prog 68 #[.int .u32 (b : Int)] w fun e w' => e = .returned (.tuple #[.agg (wn (xt b)), .int .i64 (if okB b then 0 else 50)]) ∧ Below w.heap.size w w' := by
  unfold xt
  cases h : okB b
  · exact expand_no b hb h w
  · exact expand_yes b hb h w
end Go.Proofs.YtdkemnjkhclbkaaDoor
namespace Go.Proofs.YtdkemnjkhclbkaaDoor
open Go.RowKit
open Go.Deep
theorem sub_words (m n : Nat) (hn : n < M) : wn ((m + (M - 1 - n)) % M + 1) = wn (df m n) := by
  rw [← wn_mod ((m + (M - 1 - n)) % M + 1), Nat.mod_add_mod, df, show m + (M - 1 - n) + 1 = m + M - n by omega, wn_mod]
theorem cmp_neg (m n : Nat) : (cmpZ m n < 0) = (m < n) := by
  apply propext
  unfold cmpZ
  split
  · simp; omega
  · split <;> simp <;> omega
/-- Two numbers, an answer's place, and a number at g. -/
structure Sb (w W : World) (t : TypeId) (m n g x : Nat) : Prop where
  a : W.heap[w.heap.size]? = some (.cells (wn m) t (0, 0))
  b : W.heap[w.heap.size + 1]? = some (.cells (wn n) t (0, 0))
  r : W.heap[w.heap.size + 1 + 1]? = some (.cells (wn 0) t (0, 0))
  o : W.heap[g]? = some (.cells (wn x) t (0, 0))
  lt : w.heap.size + 1 + 1 < g
  bel : Below w.heap.size w W
section
variable {w W W' : World} {t : TypeId} {m n g x : Nat}
theorem Sb.next (j : Sb w W t m n g x) (h : Below W.heap.size W W') : Sb w W' t m n g x :=
  ⟨(h.block _ (lt_heap j.a)).trans j.a, (h.block _ (lt_heap j.b)).trans j.b, (h.block _ (lt_heap j.r)).trans j.r, (h.block _ (lt_heap j.o)).trans j.o, j.lt, below_next j.bel h⟩
theorem Sb.drew (j : Sb w W t m n g x) : Sb w W.drew t m n g x := ⟨j.a, j.b, j.r, j.o, j.lt, j.bel.drew⟩
theorem Sb.put (j : Sb w W t m n g x) (y : Nat) : Sb w (W.setRow g (wn y)) t m n g y := by
  have := j.lt
  exact ⟨(setRow_other _ _ _ _ (by omega)).trans j.a, (setRow_other _ _ _ _ (by omega)).trans j.b, (setRow_other _ _ _ _ (by omega)).trans j.r, setRow_heap _ _ _ _ _ _ j.o, j.lt, below_setRow j.bel (by omega) _⟩
theorem Sb.three (w : World) (t : TypeId) (m n : Nat) : (((w.alloc (.cells (wn m) t)).alloc (.cells (wn n) t)).alloc (.cells (wn 0) t)).heap[w.heap.size]? = some (.cells (wn m) t (0, 0)) ∧ (((w.alloc (.cells (wn m) t)).alloc (.cells (wn n) t)).alloc (.cells (wn 0) t)).heap[w.heap.size + 1]? = some (.cells (wn n) t (0, 0)) ∧ (((w.alloc (.cells (wn m) t)).alloc (.cells (wn n) t)).alloc (.cells (wn 0) t)).heap[w.heap.size + 1 + 1]? = some (.cells (wn 0) t (0, 0)) ∧ Below w.heap.size w (((w.alloc (.cells (wn m) t)).alloc (.cells (wn n) t)).alloc (.cells (wn 0) t)) := by
  obtain ⟨e1, e2, e3⟩ := blk3 w (.cells (wn m) t) (.cells (wn n) t) (.cells (wn 0) t)
  exact ⟨e1, e2, e3, below3 w _ _ _⟩
/-- Three rows. -/
structure S3 (w W : World) (t : TypeId) (m n : Nat) : Prop where
  a : W.heap[w.heap.size]? = some (.cells (wn m) t (0, 0))
  b : W.heap[w.heap.size + 1]? = some (.cells (wn n) t (0, 0))
  r : W.heap[w.heap.size + 1 + 1]? = some (.cells (wn 0) t (0, 0))
  bel : Below w.heap.size w W
theorem S3.next (j : S3 w W t m n) (h : Below W.heap.size W W') : S3 w W' t m n :=
  ⟨(h.block _ (lt_heap j.a)).trans j.a, (h.block _ (lt_heap j.b)).trans j.b, (h.block _ (lt_heap j.r)).trans j.r, below_next j.bel h⟩
theorem S3.drew (j : S3 w W t m n) : S3 w W.drew t m n := ⟨j.a, j.b, j.r, j.bel.drew⟩
theorem S3.new (j : S3 w W t m n) (x : Nat) : Sb w (W.alloc (.cells (wn x) t)) t m n W.heap.size x := by
  have k := j.next ((Below.refl _ _).alloc (Nat.le_refl _) (.cells (wn x) t))
  exact ⟨k.a, k.b, k.r, heap_alloc_last _ _, lt_heap j.r, k.bel⟩
theorem S3.alloc (j : S3 w W t m n) (o : Obj) : S3 w (W.alloc o) t m n := j.next ((Below.refl _ _).alloc (Nat.le_refl _) _)
theorem S3.at (j : S3 w W t m n) (z : W.heap[g]? = some (.cells (wn x) t (0, 0))) (lt : w.heap.size + 1 + 1 < g) : Sb w W t m n g x := ⟨j.a, j.b, j.r, z, lt, j.bel⟩
theorem S3.lt (j : S3 w W t m n) : w.heap.size + 1 + 1 < W.heap.size := lt_heap j.r
theorem S3.start (w : World) (t : TypeId) (m n : Nat) : S3 w (((w.alloc (.cells (wn m) t)).alloc (.cells (wn n) t)).alloc (.cells (wn 0) t)) t m n := by
  obtain ⟨a, b, c, d⟩ := Sb.three w t m n
  exact ⟨a, b, c, d⟩
end
theorem zW_eq : wn 0 = #[.int .u64 0, .int .u64 0, .int .u64 0, .int .u64 0] := wn_small 0 (by decide)
theorem svR_new (W : World) (n : Nat) : (svR (.pointer (some ⟨W.heap.size, 0, none⟩)) (.agg (wn n))).run Tryd.prog (W.alloc (.cells #[.int .u64 0, .int .u64 0, .int .u64 0, .int .u64 0] 130)) = .ok () ((W.alloc (.cells #[.int .u64 0, .int .u64 0, .int .u64 0, .int .u64 0] 130)).setRow W.heap.size (wn n)) := by
  rw [← zW_eq]
  exact svR_row (heap_alloc_last W _) n
theorem svW_new (W : World) (n : Nat) : (svW (.pointer (some ⟨W.heap.size, 0, none⟩)) (.agg (wn n))).run Tryd.prog (W.alloc (.cells #[.int .u64 0, .int .u64 0, .int .u64 0, .int .u64 0] 131)) = .ok () ((W.alloc (.cells #[.int .u64 0, .int .u64 0, .int .u64 0, .int .u64 0] 131)).setRow W.heap.size (wn n)) := by
  rw [← zW_eq]
  exact svW_row (heap_alloc_last W _) n
attribute [local go_sem ↓] ldR_eq svR_eq
section
set_option maxRecDepth 10000
set_option maxHeartbeats 2000000
end
end Go.Proofs.YtdkemnjkhclbkaaDoor
namespace Go.Proofs.YtdkemnjkhclbkaaDoor
open Go.RowKit
open Go.Deep
theorem ldB {W0 Y : World} {N T : Nat} {t : TypeId} (hN : W0.heap[N]? = some (.cells (wn T) t (0, 0))) (B : Below W0.heap.size W0 Y) : (ldW (.pointer (some ⟨N, 0, none⟩))).run Tryd.prog Y = .ok (.agg (wn T)) Y := ldW_row ((B.block _ (lt_heap hN)).trans hN)
theorem bel_alloc {W0 Y : World} (B : Below W0.heap.size W0 Y) (o : Obj) : Below W0.heap.size W0 (Y.alloc o) := below_next B (below_allocZ Y o)
theorem bel_size {W0 Y : World} (B : Below W0.heap.size W0 Y) : W0.heap.size ≤ Y.heap.size := B.size
theorem bel_put {W0 Y : World} {g : Nat} (B : Below W0.heap.size W0 Y) (h : W0.heap.size ≤ g) (c : Array Value) : Below W0.heap.size W0 (Y.setRow g c) := below_setRow B h c
theorem Rs.cons {w W : World} {l : List (Nat × TypeId × Nat)} {g n : Nat} {t : TypeId} (j : Rs w W l) (h : W.heap[g]? = some (.cells (wn n) t (0, 0))) : Rs w W ((g, t, n) :: l) := by
  refine ⟨fun p hp => ?_, j.bel⟩
  rcases List.mem_cons.1 hp with rfl | h2
  · exact h
  · exact j.row p h2
theorem row_new (W : World) (n : Nat) : ((W.alloc (.cells #[.int .u64 0, .int .u64 0, .int .u64 0, .int .u64 0] 131)).setRow W.heap.size (wn n)).heap[W.heap.size]? = some (.cells (wn n) 131 (0, 0)) := by
  rw [← zW_eq]
  exact setRow_heap _ _ _ _ _ _ (heap_alloc_last W _)
/-- A row that was made ahead of a call is there behind it. -/
theorem zero_kept {W Y : World} (be : Below (W.alloc (.cells #[.int .u64 0, .int .u64 0, .int .u64 0, .int .u64 0] 131)).heap.size (W.alloc (.cells #[.int .u64 0, .int .u64 0, .int .u64 0, .int .u64 0] 131)) Y) : Y.heap[W.heap.size]? = some (.cells (wn 0) 131 (0, 0)) :=
  (be.block _ (by simp)).trans (by rw [zW_eq]; exact heap_alloc_last W _)
theorem zero_kept_drew {W Y : World} (be : Below (W.alloc (.cells #[.int .u64 0, .int .u64 0, .int .u64 0, .int .u64 0] 131)).drew.heap.size (W.alloc (.cells #[.int .u64 0, .int .u64 0, .int .u64 0, .int .u64 0] 131)).drew Y) : Y.heap[W.heap.size]? = some (.cells (wn 0) 131 (0, 0)) :=
  (be.block _ (by simp)).trans (by rw [zW_eq]; exact heap_alloc_last W _)
theorem row_kept {W Y : World} {g n : Nat} {t : TypeId} (z : W.heap[g]? = some (.cells (wn n) t (0, 0))) (be : Below W.heap.size W Y) : Y.heap[g]? = some (.cells (wn n) t (0, 0)) := (be.block _ (lt_heap z)).trans z
theorem zero_kept2 {W Y : World} (be : Below ((W.alloc (.cells #[.int .u64 0, .int .u64 0, .int .u64 0, .int .u64 0] 131)).alloc (.cells #[.int .u64 0, .int .u64 0, .int .u64 0, .int .u64 0] 131)).heap.size ((W.alloc (.cells #[.int .u64 0, .int .u64 0, .int .u64 0, .int .u64 0] 131)).alloc (.cells #[.int .u64 0, .int .u64 0, .int .u64 0, .int .u64 0] 131)) Y) : Y.heap[W.heap.size]? = some (.cells (wn 0) 131 (0, 0)) ∧ Y.heap[W.heap.size + 1]? = some (.cells (wn 0) 131 (0, 0)) := by
  rw [zW_eq]
  exact ⟨(be.block _ (by simp <;> omega)).trans (blk2x W _ _).1, (be.block _ (by simp <;> omega)).trans (blk2x W _ _).2⟩
theorem zero_kept2_drew {W Y : World} (be : Below ((W.alloc (.cells #[.int .u64 0, .int .u64 0, .int .u64 0, .int .u64 0] 131)).alloc (.cells #[.int .u64 0, .int .u64 0, .int .u64 0, .int .u64 0] 131)).drew.heap.size ((W.alloc (.cells #[.int .u64 0, .int .u64 0, .int .u64 0, .int .u64 0] 131)).alloc (.cells #[.int .u64 0, .int .u64 0, .int .u64 0, .int .u64 0] 131)).drew Y) : Y.heap[W.heap.size]? = some (.cells (wn 0) 131 (0, 0)) ∧ Y.heap[W.heap.size + 1]? = some (.cells (wn 0) 131 (0, 0)) := by
  rw [zW_eq]
  exact ⟨(be.block _ (by simp <;> omega)).trans (blk2x W _ _).1, (be.block _ (by simp <;> omega)).trans (blk2x W _ _).2⟩
/-- Two rows of zeros, into which two numbers are stored, in either order. -/
structure Tw (X : World) (gA gB Q R : Nat) : Prop where
  p1 : (svW (.pointer (some ⟨gA, 0, none⟩)) (.agg (wn Q))).run Tryd.prog X = .ok () (X.setRow gA (wn Q))
  p2 : (svW (.pointer (some ⟨gB, 0, none⟩)) (.agg (wn Q))).run Tryd.prog X = .ok () (X.setRow gB (wn Q))
  p3 : (svW (.pointer (some ⟨gB, 0, none⟩)) (.agg (wn R))).run Tryd.prog (X.setRow gA (wn Q)) = .ok () ((X.setRow gA (wn Q)).setRow gB (wn R))
  p4 : (svW (.pointer (some ⟨gA, 0, none⟩)) (.agg (wn R))).run Tryd.prog (X.setRow gB (wn Q)) = .ok () ((X.setRow gB (wn Q)).setRow gA (wn R))
  e1 : ((X.setRow gA (wn Q)).setRow gB (wn R)).heap[gA]? = some (.cells (wn Q) 131 (0, 0)) ∧ ((X.setRow gA (wn Q)).setRow gB (wn R)).heap[gB]? = some (.cells (wn R) 131 (0, 0))
  e2 : ((X.setRow gB (wn Q)).setRow gA (wn R)).heap[gB]? = some (.cells (wn Q) 131 (0, 0)) ∧ ((X.setRow gB (wn Q)).setRow gA (wn R)).heap[gA]? = some (.cells (wn R) 131 (0, 0))
theorem tw {X : World} {gA gB : Nat} (zA : X.heap[gA]? = some (.cells (wn 0) 131 (0, 0))) (zB : X.heap[gB]? = some (.cells (wn 0) 131 (0, 0))) (h : gA < gB) (Q R : Nat) : Tw X gA gB Q R := by
  have a1 : (X.setRow gA (wn Q)).heap[gB]? = some (.cells (wn 0) 131 (0, 0)) := (setRow_other _ _ _ _ (by omega)).trans zB
  have a2 : (X.setRow gB (wn Q)).heap[gA]? = some (.cells (wn 0) 131 (0, 0)) := (setRow_other _ _ _ _ (by omega)).trans zA
  exact ⟨svW_row zA Q, svW_row zB Q, svW_row a1 R, svW_row a2 R, ⟨(setRow_other _ _ _ _ (by omega)).trans (setRow_heap _ _ _ _ _ _ zA), setRow_heap _ _ _ _ _ _ a1⟩, ⟨(setRow_other _ _ _ _ (by omega)).trans (setRow_heap _ _ _ _ _ _ zB), setRow_heap _ _ _ _ _ _ a2⟩⟩
theorem tw_one {X : World} {gA : Nat} (zA : X.heap[gA]? = some (.cells (wn 0) 131 (0, 0))) (Q R : Nat) : Tw (X.alloc (.cells #[.int .u64 0, .int .u64 0, .int .u64 0, .int .u64 0] 131)) gA X.heap.size Q R := by
  rw [← zW_eq]
  exact tw ((Below.heap_alloc _ _ _ (lt_heap zA)).trans zA) (heap_alloc_last X _) (lt_heap zA) Q R
theorem tw_two (X : World) (Q R : Nat) : Tw ((X.alloc (.cells #[.int .u64 0, .int .u64 0, .int .u64 0, .int .u64 0] 131)).alloc (.cells #[.int .u64 0, .int .u64 0, .int .u64 0, .int .u64 0] 131)) X.heap.size (X.heap.size + 1) Q R := by
  rw [← zW_eq]
  exact tw (blk2x X _ _).1 (blk2x X _ _).2 (by omega) Q R
end Go.Proofs.YtdkemnjkhclbkaaDoor
namespace Go.Proofs.YtdkemnjkhclbkaaDoor
open Go.RowKit
open Go.Deep
attribute [local go_sem ↓] ldW_eq svW_eq
section
set_option maxRecDepth 10000
set_option maxHeartbeats 4000000
end
end Go.Proofs.YtdkemnjkhclbkaaDoor
