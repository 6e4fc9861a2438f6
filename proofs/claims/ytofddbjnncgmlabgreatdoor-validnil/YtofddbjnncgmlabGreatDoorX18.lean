/- The contract of the document's Sub. Regions that draw their order, with calls, new rows and stores into them: what is known of the rows in every order. The contracts of target.share and target.Work. The contract of target.Compact; awake. The contract of wide.Of. The contracts of target.Meets and the document's Meets. -/
import Derived.Test.YtofddbjnncgmlabGreatDoorX15
import Derived.Test.YtofddbjnncgmlabGreatDoorX16
import Derived.Test.YtofddbjnncgmlabGreatDoorX17
namespace Go.Proofs.YtofddbjnncgmlabGreatDoor
open Go.RowKit
open Go.Deep
theorem sub_words (m n : Nat) (hn : n < M) : wn ((m + (M - 1 - n)) % M + 1) = wn (df m n) := by
  rw [← wn_mod ((m + (M - 1 - n)) % M + 1), Nat.mod_add_mod, df, show m + (M - 1 - n) + 1 = m + M - n by omega, wn_mod]
theorem cmp_neg (m n : Nat) : (cmpZ m n < 0) = (m < n) := by
  apply propext
  unfold cmpZ
  split
  · simp; omega
  · split <;> simp <;> omega
/-- Two numbers, an answer's place, and a number at g. -/
structure Sb (w W : World) (t : TypeId) (m n g x : Nat) : Prop where
  a : W.heap[w.heap.size]? = some (.cells (wn m) t (0, 0))
  b : W.heap[w.heap.size + 1]? = some (.cells (wn n) t (0, 0))
  r : W.heap[w.heap.size + 1 + 1]? = some (.cells (wn 0) t (0, 0))
  o : W.heap[g]? = some (.cells (wn x) t (0, 0))
  lt : w.heap.size + 1 + 1 < g
  bel : Below w.heap.size w W
section
variable {w W W' : World} {t : TypeId} {m n g x : Nat}
theorem Sb.next (j : Sb w W t m n g x) (h : Below W.heap.size W W') : Sb w W' t m n g x :=
  ⟨(h.block _ (lt_heap j.a)).trans j.a, (h.block _ (lt_heap j.b)).trans j.b, (h.block _ (lt_heap j.r)).trans j.r, (h.block _ (lt_heap j.o)).trans j.o, j.lt, below_next j.bel h⟩
theorem Sb.drew (j : Sb w W t m n g x) : Sb w W.drew t m n g x := ⟨j.a, j.b, j.r, j.o, j.lt, j.bel.drew⟩
theorem Sb.put (j : Sb w W t m n g x) (y : Nat) : Sb w (W.setRow g (wn y)) t m n g y := by
  have := j.lt
  exact ⟨(setRow_other _ _ _ _ (by omega)).trans j.a, (setRow_other _ _ _ _ (by omega)).trans j.b, (setRow_other _ _ _ _ (by omega)).trans j.r, setRow_heap _ _ _ _ _ _ j.o, j.lt, below_setRow j.bel (by omega) _⟩
theorem Sb.three (w : World) (t : TypeId) (m n : Nat) : (((w.alloc (.cells (wn m) t)).alloc (.cells (wn n) t)).alloc (.cells (wn 0) t)).heap[w.heap.size]? = some (.cells (wn m) t (0, 0)) ∧ (((w.alloc (.cells (wn m) t)).alloc (.cells (wn n) t)).alloc (.cells (wn 0) t)).heap[w.heap.size + 1]? = some (.cells (wn n) t (0, 0)) ∧ (((w.alloc (.cells (wn m) t)).alloc (.cells (wn n) t)).alloc (.cells (wn 0) t)).heap[w.heap.size + 1 + 1]? = some (.cells (wn 0) t (0, 0)) ∧ Below w.heap.size w (((w.alloc (.cells (wn m) t)).alloc (.cells (wn n) t)).alloc (.cells (wn 0) t)) := by
  obtain ⟨e1, e2, e3⟩ := blk3 w (.cells (wn m) t) (.cells (wn n) t) (.cells (wn 0) t)
  exact ⟨e1, e2, e3, below3 w _ _ _⟩
/-- Three rows. -/
structure S3 (w W : World) (t : TypeId) (m n : Nat) : Prop where
  a : W.heap[w.heap.size]? = some (.cells (wn m) t (0, 0))
  b : W.heap[w.heap.size + 1]? = some (.cells (wn n) t (0, 0))
  r : W.heap[w.heap.size + 1 + 1]? = some (.cells (wn 0) t (0, 0))
  bel : Below w.heap.size w W
theorem S3.next (j : S3 w W t m n) (h : Below W.heap.size W W') : S3 w W' t m n :=
  ⟨(h.block _ (lt_heap j.a)).trans j.a, (h.block _ (lt_heap j.b)).trans j.b, (h.block _ (lt_heap j.r)).trans j.r, below_next j.bel h⟩
theorem S3.drew (j : S3 w W t m n) : S3 w W.drew t m n := ⟨j.a, j.b, j.r, j.bel.drew⟩
theorem S3.new (j : S3 w W t m n) (x : Nat) : Sb w (W.alloc (.cells (wn x) t)) t m n W.heap.size x := by
  have k := j.next ((Below.refl _ _).alloc (Nat.le_refl _) (.cells (wn x) t))
  exact ⟨k.a, k.b, k.r, heap_alloc_last _ _, lt_heap j.r, k.bel⟩
theorem S3.alloc (j : S3 w W t m n) (o : Obj) : S3 w (W.alloc o) t m n := j.next ((Below.refl _ _).alloc (Nat.le_refl _) _)
theorem S3.at (j : S3 w W t m n) (z : W.heap[g]? = some (.cells (wn x) t (0, 0))) (lt : w.heap.size + 1 + 1 < g) : Sb w W t m n g x := ⟨j.a, j.b, j.r, z, lt, j.bel⟩
theorem S3.lt (j : S3 w W t m n) : w.heap.size + 1 + 1 < W.heap.size := lt_heap j.r
theorem S3.start (w : World) (t : TypeId) (m n : Nat) : S3 w (((w.alloc (.cells (wn m) t)).alloc (.cells (wn n) t)).alloc (.cells (wn 0) t)) t m n := by
  obtain ⟨a, b, c, d⟩ := Sb.three w t m n
  exact ⟨a, b, c, d⟩
end
theorem zW_eq : wn 0 = #[.int .u64 0, .int .u64 0, .int .u64 0, .int .u64 0] := wn_small 0 (by decide)
theorem svR_new (W : World) (n : Nat) : (svR (.pointer (some ⟨W.heap.size, 0, none⟩)) (.agg (wn n))).run Tryz.prog (W.alloc (.cells #[.int .u64 0, .int .u64 0, .int .u64 0, .int .u64 0] 231)) = .ok () ((W.alloc (.cells #[.int .u64 0, .int .u64 0, .int .u64 0, .int .u64 0] 231)).setRow W.heap.size (wn n)) := by
  rw [← zW_eq]
  exact svR_row (heap_alloc_last W _) n
theorem svW_new (W : World) (n : Nat) : (svW (.pointer (some ⟨W.heap.size, 0, none⟩)) (.agg (wn n))).run Tryz.prog (W.alloc (.cells #[.int .u64 0, .int .u64 0, .int .u64 0, .int .u64 0] 232)) = .ok () ((W.alloc (.cells #[.int .u64 0, .int .u64 0, .int .u64 0, .int .u64 0] 232)).setRow W.heap.size (wn n)) := by
  rw [← zW_eq]
  exact svW_row (heap_alloc_last W _) n
attribute [local go_sem ↓] ldR_eq svR_eq
section
set_option maxRecDepth 10000
set_option maxHeartbeats 2000000
end
end Go.Proofs.YtofddbjnncgmlabGreatDoor
namespace Go.Proofs.YtofddbjnncgmlabGreatDoor
open Go.RowKit
open Go.Deep
theorem ldB {W0 Y : World} {N T : Nat} {t : TypeId} (hN : W0.heap[N]? = some (.cells (wn T) t (0, 0))) (B : Below W0.heap.size W0 Y) : (ldW (.pointer (some ⟨N, 0, none⟩))).run Tryz.prog Y = .ok (.agg (wn T)) Y := ldW_row ((B.block _ (lt_heap hN)).trans hN)
theorem bel_alloc {W0 Y : World} (B : Below W0.heap.size W0 Y) (o : Obj) : Below W0.heap.size W0 (Y.alloc o) := below_next B (below_allocZ Y o)
theorem bel_size {W0 Y : World} (B : Below W0.heap.size W0 Y) : W0.heap.size ≤ Y.heap.size := B.size
theorem bel_put {W0 Y : World} {g : Nat} (B : Below W0.heap.size W0 Y) (h : W0.heap.size ≤ g) (c : Array Value) : Below W0.heap.size W0 (Y.setRow g c) := below_setRow B h c
theorem Rs.cons {w W : World} {l : List (Nat × TypeId × Nat)} {g n : Nat} {t : TypeId} (j : Rs w W l) (h : W.heap[g]? = some (.cells (wn n) t (0, 0))) : Rs w W ((g, t, n) :: l) := by
  refine ⟨fun p hp => ?_, j.bel⟩
  rcases List.mem_cons.1 hp with rfl | h2
  · exact h
  · exact j.row p h2
theorem row_new (W : World) (n : Nat) : ((W.alloc (.cells #[.int .u64 0, .int .u64 0, .int .u64 0, .int .u64 0] 232)).setRow W.heap.size (wn n)).heap[W.heap.size]? = some (.cells (wn n) 232 (0, 0)) := by
  rw [← zW_eq]
  exact setRow_heap _ _ _ _ _ _ (heap_alloc_last W _)
/-- A row that was made ahead of a call is there behind it. -/
theorem zero_kept {W Y : World} (be : Below (W.alloc (.cells #[.int .u64 0, .int .u64 0, .int .u64 0, .int .u64 0] 232)).heap.size (W.alloc (.cells #[.int .u64 0, .int .u64 0, .int .u64 0, .int .u64 0] 232)) Y) : Y.heap[W.heap.size]? = some (.cells (wn 0) 232 (0, 0)) :=
  (be.block _ (by simp)).trans (by rw [zW_eq]; exact heap_alloc_last W _)
theorem zero_kept_drew {W Y : World} (be : Below (W.alloc (.cells #[.int .u64 0, .int .u64 0, .int .u64 0, .int .u64 0] 232)).drew.heap.size (W.alloc (.cells #[.int .u64 0, .int .u64 0, .int .u64 0, .int .u64 0] 232)).drew Y) : Y.heap[W.heap.size]? = some (.cells (wn 0) 232 (0, 0)) :=
  (be.block _ (by simp)).trans (by rw [zW_eq]; exact heap_alloc_last W _)
theorem row_kept {W Y : World} {g n : Nat} {t : TypeId} (z : W.heap[g]? = some (.cells (wn n) t (0, 0))) (be : Below W.heap.size W Y) : Y.heap[g]? = some (.cells (wn n) t (0, 0)) := (be.block _ (lt_heap z)).trans z
theorem zero_kept2 {W Y : World} (be : Below ((W.alloc (.cells #[.int .u64 0, .int .u64 0, .int .u64 0, .int .u64 0] 232)).alloc (.cells #[.int .u64 0, .int .u64 0, .int .u64 0, .int .u64 0] 232)).heap.size ((W.alloc (.cells #[.int .u64 0, .int .u64 0, .int .u64 0, .int .u64 0] 232)).alloc (.cells #[.int .u64 0, .int .u64 0, .int .u64 0, .int .u64 0] 232)) Y) : Y.heap[W.heap.size]? = some (.cells (wn 0) 232 (0, 0)) ∧ Y.heap[W.heap.size + 1]? = some (.cells (wn 0) 232 (0, 0)) := by
  rw [zW_eq]
  exact ⟨(be.block _ (by simp <;> omega)).trans (blk2x W _ _).1, (be.block _ (by simp <;> omega)).trans (blk2x W _ _).2⟩
theorem zero_kept2_drew {W Y : World} (be : Below ((W.alloc (.cells #[.int .u64 0, .int .u64 0, .int .u64 0, .int .u64 0] 232)).alloc (.cells #[.int .u64 0, .int .u64 0, .int .u64 0, .int .u64 0] 232)).drew.heap.size ((W.alloc (.cells #[.int .u64 0, .int .u64 0, .int .u64 0, .int .u64 0] 232)).alloc (.cells #[.int .u64 0, .int .u64 0, .int .u64 0, .int .u64 0] 232)).drew Y) : Y.heap[W.heap.size]? = some (.cells (wn 0) 232 (0, 0)) ∧ Y.heap[W.heap.size + 1]? = some (.cells (wn 0) 232 (0, 0)) := by
  rw [zW_eq]
  exact ⟨(be.block _ (by simp <;> omega)).trans (blk2x W _ _).1, (be.block _ (by simp <;> omega)).trans (blk2x W _ _).2⟩
/-- Two rows of zeros, into which two numbers are stored, in either order. -/
structure Tw (X : World) (gA gB Q R : Nat) : Prop where
  p1 : (svW (.pointer (some ⟨gA, 0, none⟩)) (.agg (wn Q))).run Tryz.prog X = .ok () (X.setRow gA (wn Q))
  p2 : (svW (.pointer (some ⟨gB, 0, none⟩)) (.agg (wn Q))).run Tryz.prog X = .ok () (X.setRow gB (wn Q))
  p3 : (svW (.pointer (some ⟨gB, 0, none⟩)) (.agg (wn R))).run Tryz.prog (X.setRow gA (wn Q)) = .ok () ((X.setRow gA (wn Q)).setRow gB (wn R))
  p4 : (svW (.pointer (some ⟨gA, 0, none⟩)) (.agg (wn R))).run Tryz.prog (X.setRow gB (wn Q)) = .ok () ((X.setRow gB (wn Q)).setRow gA (wn R))
  e1 : ((X.setRow gA (wn Q)).setRow gB (wn R)).heap[gA]? = some (.cells (wn Q) 232 (0, 0)) ∧ ((X.setRow gA (wn Q)).setRow gB (wn R)).heap[gB]? = some (.cells (wn R) 232 (0, 0))
  e2 : ((X.setRow gB (wn Q)).setRow gA (wn R)).heap[gB]? = some (.cells (wn Q) 232 (0, 0)) ∧ ((X.setRow gB (wn Q)).setRow gA (wn R)).heap[gA]? = some (.cells (wn R) 232 (0, 0))
theorem tw {X : World} {gA gB : Nat} (zA : X.heap[gA]? = some (.cells (wn 0) 232 (0, 0))) (zB : X.heap[gB]? = some (.cells (wn 0) 232 (0, 0))) (h : gA < gB) (Q R : Nat) : Tw X gA gB Q R := by
  have a1 : (X.setRow gA (wn Q)).heap[gB]? = some (.cells (wn 0) 232 (0, 0)) := (setRow_other _ _ _ _ (by omega)).trans zB
  have a2 : (X.setRow gB (wn Q)).heap[gA]? = some (.cells (wn 0) 232 (0, 0)) := (setRow_other _ _ _ _ (by omega)).trans zA
  exact ⟨svW_row zA Q, svW_row zB Q, svW_row a1 R, svW_row a2 R, ⟨(setRow_other _ _ _ _ (by omega)).trans (setRow_heap _ _ _ _ _ _ zA), setRow_heap _ _ _ _ _ _ a1⟩, ⟨(setRow_other _ _ _ _ (by omega)).trans (setRow_heap _ _ _ _ _ _ zB), setRow_heap _ _ _ _ _ _ a2⟩⟩
theorem tw_one {X : World} {gA : Nat} (zA : X.heap[gA]? = some (.cells (wn 0) 232 (0, 0))) (Q R : Nat) : Tw (X.alloc (.cells #[.int .u64 0, .int .u64 0, .int .u64 0, .int .u64 0] 232)) gA X.heap.size Q R := by
  rw [← zW_eq]
  exact tw ((Below.heap_alloc _ _ _ (lt_heap zA)).trans zA) (heap_alloc_last X _) (lt_heap zA) Q R
theorem tw_two (X : World) (Q R : Nat) : Tw ((X.alloc (.cells #[.int .u64 0, .int .u64 0, .int .u64 0, .int .u64 0] 232)).alloc (.cells #[.int .u64 0, .int .u64 0, .int .u64 0, .int .u64 0] 232)) X.heap.size (X.heap.size + 1) Q R := by
  rw [← zW_eq]
  exact tw (blk2x X _ _).1 (blk2x X _ _).2 (by omega) Q R
end Go.Proofs.YtofddbjnncgmlabGreatDoor
namespace Go.Proofs.YtofddbjnncgmlabGreatDoor
open Go.RowKit
open Go.Deep
attribute [local go_sem ↓] ldW_eq svW_eq
section
set_option maxRecDepth 10000
set_option maxHeartbeats 4000000
end
end Go.Proofs.YtofddbjnncgmlabGreatDoor
namespace Go.Proofs.YtofddbjnncgmlabGreatDoor
open Go.RowKit
open Go.Deep
/-- How many bytes a number has; its three highest; its bits. -/
def szB (m : Nat) : Nat := (bl m + 7) / 8
def nmB (m : Nat) : Nat := if szB m < 3 then m * 2 ^ (8 * (3 - szB m)) else m / 2 ^ (8 * (szB m - 3))
def cpt (m : Nat) : Nat := if 8388608 ≤ nmB m then (szB m + 1) * 16777216 + nmB m / 256 else szB m * 16777216 + nmB m
theorem szB_le (m : Nat) (hm : m < M) : szB m ≤ 32 := by
  have := bl_le_of m 256 (by rw [← M_pow]; exact hm)
  unfold szB
  omega
theorem szB_lt (m : Nat) : m < 2 ^ (8 * szB m) := by
  have h := bl_lt m
  have : 2 ^ bl m ≤ 2 ^ (8 * szB m) := Nat.pow_le_pow_right (by decide) (by unfold szB; omega)
  omega
theorem nmB_lt (m : Nat) : nmB m < 16777216 := by
  have h := szB_lt m
  unfold nmB
  split
  · rename_i h3
    have e : (16777216 : Nat) = 2 ^ (8 * szB m) * 2 ^ (8 * (3 - szB m)) := by rw [← Nat.pow_add, show 8 * szB m + 8 * (3 - szB m) = 24 by omega]
    rw [e]
    exact Nat.mul_lt_mul_of_pos_right h (Nat.two_pow_pos _)
  · rename_i h3
    rw [Nat.div_lt_iff_lt_mul (Nat.two_pow_pos _)]
    have e : (16777216 : Nat) * 2 ^ (8 * (szB m - 3)) = 2 ^ (8 * szB m) := by rw [show (16777216 : Nat) = 2 ^ 24 from rfl, ← Nat.pow_add, show 24 + 8 * (szB m - 3) = 8 * szB m by omega]
    rw [e]
    exact h
theorem and_bit64 (n : Nat) (hn : n < 16777216) : (bits .and .u64 (n : Int) 8388608 != 0) = decide (8388608 ≤ n) := by
  have e := u64_and_nat n 8388608 (by omega) (by decide)
  rw [show ((8388608 : Nat) : Int) = 8388608 from rfl] at e
  have e2 : n &&& 8388608 = if n / 8388608 % 2 = 1 then 8388608 else 0 := and_pow n 23
  rw [e, e2]
  by_cases h : 8388608 ≤ n
  · rw [if_pos (by omega)]
    simp only [h]
    decide
  · rw [if_neg (by omega)]
    simp only [h]
    decide
theorem or_size (s n : Nat) (hs : s ≤ 255) (hn : n < 16777216) : bits .or .u32 ((s : Int) % 4294967296 * 16777216 % 4294967296) ((n : Int) % 4294967296) = ((s * 16777216 + n : Nat) : Int) := by
  rw [show (s : Int) % 4294967296 * 16777216 % 4294967296 = ((s * 16777216 : Nat) : Int) by omega, show (n : Int) % 4294967296 = (n : Int) by omega]
  rw [u32_or_nat _ _ (by omega) (by omega)]
  congr 1
  have := Nat.two_pow_add_eq_or_of_lt (i := 24) (b := n) hn s
  rw [Nat.mul_comm s, show (16777216 : Nat) = 2 ^ 24 from rfl, this]
section
set_option maxRecDepth 10000
set_option maxHeartbeats 2000000
theorem okB_lim : okB 545259519 = true := by decide +kernel
theorem work_lim : (M - 1 - Lm) / (Lm + 1) + 1 = 2 := by decide +kernel
theorem cpt_lim : cpt Lm = 545259519 := by decide +kernel
end
end Go.Proofs.YtofddbjnncgmlabGreatDoor
namespace Go.Proofs.YtofddbjnncgmlabGreatDoor
open Go.RowKit
open Go.Deep
theorem hszU (w : World) (o : Obj) : (w.alloc o).heap.size = w.heap.size + 1 := by simp
/-- A byte more in a number. -/
theorem put_byte (x b i : Nat) (hx : x < 256 ^ i) (hb : b < 256) : b * 2 ^ (8 * (i % 8)) < 18446744073709551616 ∧ wd x (i / 8) ||| b * 2 ^ (8 * (i % 8)) = wd (x + b * 256 ^ i) (i / 8) ∧ ∀ j, j ≠ i / 8 → wd (x + b * 256 ^ i) j = wd x j := by
  have hp : 256 ^ i = 2 ^ (8 * i) := by rw [Nat.pow_mul]
  rw [hp] at hx ⊢
  have e : x + b * 2 ^ (8 * i) = b * 2 ^ (8 * i) ||| x := by
    rw [Nat.mul_comm, ← Nat.two_pow_add_eq_or_of_lt hx, Nat.add_comm]
  have hbt : ∀ n, 8 ≤ n → b.testBit n = false := fun n hn => Nat.testBit_lt_two_pow (Nat.lt_of_lt_of_le hb (show 256 ≤ 2 ^ n from Nat.pow_le_pow_right (n := 2) (i := 8) (j := n) (by decide) hn))
  refine ⟨?_, ?_, fun j hj => ?_⟩
  · have h1 : b * 2 ^ (8 * (i % 8)) < 2 ^ 8 * 2 ^ (8 * (i % 8)) := Nat.mul_lt_mul_of_pos_right hb (Nat.two_pow_pos _)
    have h2 : 2 ^ 8 * 2 ^ (8 * (i % 8)) ≤ 2 ^ 64 := by
      rw [← Nat.pow_add]
      exact Nat.pow_le_pow_right (by decide) (by omega)
    omega
  · apply word_ext
    intro t
    rw [e, wd_bit, Nat.testBit_or, Nat.testBit_or, wd_bit, Nat.testBit_mul_two_pow, Nat.testBit_mul_two_pow]
    by_cases ht : t < 64
    · rw [show (decide (8 * i ≤ 64 * (i / 8) + t)) = decide (8 * (i % 8) ≤ t) by rw [Bool.eq_iff_iff]; simp; omega]
      by_cases h8 : 8 * (i % 8) ≤ t
      · rw [show 64 * (i / 8) + t - 8 * i = t - 8 * (i % 8) by omega]
        simp [ht, Bool.or_comm]
      · simp [ht, h8]
    · rw [hbt (t - 8 * (i % 8)) (by omega)]
      simp [ht]
  · apply word_ext
    intro t
    rw [e, wd_bit, wd_bit, Nat.testBit_or, Nat.testBit_mul_two_pow]
    by_cases ht : t < 64
    · by_cases h8 : 8 * i ≤ 64 * j + t
      · rw [hbt (64 * j + t - 8 * i) (by omega)]
        simp
      · simp [h8]
    · simp [ht]
/-- A byte out of an array that is a value. -/
theorem run_indexH (l : List UInt8) (i : Nat) (h : i < l.length) (hl : l.length = 32) (w : World) : (Instr.index 25 (.agg (hc l)) (.int .i64 (i : Int))).run Tryz.prog w = .ok (.int .u8 ((by8 l i : Nat) : Int)) w := by
  have hp : (Go.part 5 (hc l) (i * 1)).run Tryz.prog w = .ok (.int .u8 ((by8 l i : Nat) : Int)) w := by
    simp [Go.part, isAgg, run_underlying Tryz.underlying5, hc_at l i h]
  rw [Nat.mul_one] at hp
  have h32 : i < 32 := by omega
  simp [Instr.index, asIntOf, run_underlying Tryz.underlying25, h32, hp]
theorem wpList_indexH {w : World} {ops : Array Oper} {rest : List Oper} {o : Oper} {a : Act} {Q : Exit → Act → World → Prop} (hgd : o.guard = none) (x y : Operand) (ho : o.op = .index 25 x y) (l : List UInt8) (hl : l.length = 32) (i : Nat) (hx : a.eval x = .agg (hc l)) (hy : a.eval y = .int .i64 (i : Int)) (hi : i < l.length)
    (h : wpList Tryz.prog ops Q rest (a.put o.dst (.int .u8 ((by8 l i : Nat) : Int))) w) : wpList Tryz.prog ops Q (o :: rest) a w := by
  refine wpList_plain hgd fun K hK => ?_
  unfold Oper.wp execOp
  simp only [ho, hx, hy, run_indexH l i hi hl w, Sem.run_bind, Result.andThen_ok, Sem.run_pure]
  exact hK _ _ h
/-- Bytes, an answer's place, and a row of words. -/
structure Ow (w W : World) (l : List UInt8) (x : Nat) : Prop where
  a : W.heap[w.heap.size]? = some (.cells (hc l) 25 (0, 0))
  r : W.heap[w.heap.size + 1]? = some (.cells (wn 0) 232 (0, 0))
  o : Nd W (w.heap.size + 1 + 1) 232 4 (wd x)
  bel : Below w.heap.size w W
theorem Ow.start (w : World) (l : List UInt8) : Ow w (((w.alloc (.cells (hc l) 25)).alloc (.cells (wn 0) 232)).alloc (.cells (wn 0) 232)) l 0 := by
  obtain ⟨e1, e2, e3⟩ := blk3 w (.cells (hc l) 25) (.cells (wn 0) 232) (.cells (wn 0) 232)
  exact ⟨e1, e2, Nd.of_heap e3, below3 w _ _ _⟩
theorem Ow.set {w W : World} {l : List UInt8} {x : Nat} (j : Ow w W l x) (i v y : Nat) (e : ∀ k, (if k = i then v else wd x k) = wd y k) : Ow w (W.setCell ⟨w.heap.size + 1 + 1, i, none⟩ (.int .u64 ((v : Nat) : Int))) l y :=
  ⟨(Below.heap_setCell _ _ _ _ (by simp <;> omega)).trans j.a, (Below.heap_setCell _ _ _ _ (by simp <;> omega)).trans j.r, (j.o.set i v).congr (fun k _ => e k), j.bel.setCell (by simp <;> omega) _⟩
theorem Ow.drew {w W : World} {l : List UInt8} {x : Nat} (j : Ow w W l x) : Ow w W.drew l x := ⟨j.a, j.r, j.o, j.bel.drew⟩
section
set_option maxRecDepth 10000
set_option maxHeartbeats 2000000
theorem ofW_any (l : List UInt8) (hl : l.length = 32) (w : World) : Calls Tryz.prog 165 #[.agg (hc l)] w fun e w' => e = .returned (.agg (wn (vs 256 (by8 l) 32))) ∧ Below w.heap.size w w' := by
  have J0 : Hid (Ow w (((w.alloc (.cells (hc l) 25)).alloc (.cells (wn 0) 232)).alloc (.cells (wn 0) 232)) l (vs 256 (by8 l) 0)) := Ow.start w l
  have a0 := hide J0.out.a
  have HL := hide hl
  have hcs : (hc l).size = 32 := by rw [hc_size]; exact hl
  have HCS := hide hcs
  clear hl hcs
  go_enter Tryz.func165, Tryz.ntmps165
  go_upto_region 2 with (first | refine wpList_boxA rfl _ rfl (hc l) rfl ?_ | refine wpList_allocA AW rfl rfl ?_)
  try simp only [Act.put, List.setIfInBounds_toArray, List.set_cons_succ, List.set_cons_zero, hszU]
  generalize ((w.alloc (.cells (hc l) 25)).alloc (.cells (wn 0) 232)).alloc (.cells (wn 0) 232) = W0 at *
  go_wp2_with (refine wpList_loadA A25 rfl _ rfl _ rfl (hc l) HCS.out 25 a0.out ?_)
  go_loopw [4, 5, 7] (fun _ _ d wr => ∃ i : Nat, i ≤ 32 ∧ d = .int .i64 i ∧ Hid (Ow w wr l (vs 256 (by8 l) i))) (fun _ _ d _ => (32 - intOf d).toNat)
  case atStart => exact ⟨0, by omega, rfl, J0⟩
  case round =>
    clear J0 a0
    obtain ⟨i, hi, rfl, J⟩ := hrel
    by_cases hlt : i < 32
    · have hi4 : (i : Int) < 32 := by omega
      have i0 : (0 : Int) ≤ i := by omega
      obtain ⟨p1, p2, p3⟩ := put_byte (vs 256 (by8 l) i) (by8 l i) i (vs_lt (fun k _ => by8_lt l k)) (by8_lt l i)
      have hor := u64_or_nat (wd (vs 256 (by8 l) i) (i / 8)) (by8 l i * 2 ^ (8 * (i % 8))) (wd_lt _ _) p1
      rw [p2] at hor
      have hsh := shl_word (by8 l i) (8 * (i % 8))
      rw [Nat.mod_eq_of_lt p1] at hsh
      have hb := by8_lt l i
      have hw : IntKind.u64.wrap ((by8 l i : Nat) : Int) = ((by8 l i : Nat) : Int) := wrapu _ (by omega) (by omega)
      have d1 : (i : Int) / 8 = ((i / 8 : Nat) : Int) := by omega
      have d2 : (i : Int) % 8 = ((i % 8 : Nat) : Int) := by omega
      have c1 : IntKind.i64.wrap (8 * ((i % 8 : Nat) : Int)) = ((8 * (i % 8) : Nat) : Int) := by rw [wrapI _ (by omega) (by omega)]; omega
      have q4 : ((i / 8 : Nat) : Int) < 4 := by omega
      have q0 : (0 : Int) ≤ ((i / 8 : Nat) : Int) := by omega
      have r6 : ((8 * (i % 8) : Nat) : Int) ≤ 64 := by omega
      have r0 : (0 : Int) ≤ ((8 * (i % 8) : Nat) : Int) := by omega
      have hiw : IntKind.i64.wrap ((i : Int) + 1) = i + 1 := wrapI _ (by omega) (by omega)
      have Q4 := hide (show i / 8 < 4 by omega)
      have HN : Hid (∀ k, (if k = i / 8 then wd (vs 256 (by8 l) i + by8 l i * 256 ^ i) (i / 8) else wd (vs 256 (by8 l) i) k) = wd (vs 256 (by8 l) (i + 1)) k) := fun k => by
        show _ = wd (vs 256 (by8 l) i + by8 l i * 256 ^ i) k
        split
        · rename_i h
          rw [h]
        · rename_i h
          exact (p3 k h).symm
      have LL := hide hlt
      have LI := hide (show i < l.length by rw [HL.out]; exact hlt)
      clear hlt hi hb p1 p2 p3
      generalize hY : vs 256 (by8 l) (i + 1) = Y at *
      have HY := hide hY
      clear hY
      generalize hV : wd (vs 256 (by8 l) i + by8 l i * 256 ^ i) (i / 8) = V at *
      clear hV
      generalize vs 256 (by8 l) i = X at *
      generalize by8 l i * 2 ^ (8 * (i % 8)) = bs at *
      generalize 8 * (i % 8) = r at *
      generalize i % 8 = e at *
      generalize hq : i / 8 = q at *
      clear hq
      go_upto_region 5 with (refine wpList_indexH rfl _ _ rfl l HL.out i rfl rfl LI.out ?_)
      have cq := J.out.o.cell Q4.out
      have fq := J.out.o.fz q
      go_region
      go_wp2
      have L4 := LL.out
      exact ⟨⟨i + 1, by omega, by go_num, by rw [HY.out]; exact hide ((J.out.set q V Y HN.out).drew)⟩, by simp [intOf]; omega⟩
    · have hke : i = 32 := by omega
      subst hke
      have H2 := J.out.o.heap
      go_wp2_with (first | refine wpList_loadA AW rfl _ rfl _ rfl (wn (vs 256 (by8 l) 32)) (wn_size _) 232 H2 ?_ | refine wpList_storeA AW rfl _ _ rfl _ (wn (vs 256 (by8 l) 32)) (wn_size _) (wn_one _) rfl rfl (wn 0) (wn_size 0) 232 J.out.r ?_)
      exact bodyPost_ret (v := .agg (wn (vs 256 (by8 l) 32))) (resA AW Tryz.results165 _ _ (w.heap.size + 1) 232 (wn (vs 256 (by8 l) 32)) (wn_size _) rfl (setRow_heap _ _ _ _ _ _ J.out.r)) rfl ⟨rfl, below_setRow J.out.bel (by omega) _⟩
end
end Go.Proofs.YtofddbjnncgmlabGreatDoor
namespace Go.Proofs.YtofddbjnncgmlabGreatDoor
open Go.RowKit
open Go.Deep
theorem hv_eq (l : List UInt8) : hv l = vs 256 (by8 l) 32 := by unfold hv; rfl
/-- Whether an id meets bits. -/
def mt (l : List UInt8) (b : Nat) : Bool := okB b && decide (hv l ≤ tgt b)
theorem cmp_leB (a b : Nat) : (cmpZ a b ≤ 0) = (a ≤ b) := by
  apply propext
  unfold cmpZ
  split
  · simp; omega
  · split <;> simp <;> omega
section
set_option maxRecDepth 10000
set_option maxHeartbeats 2000000
theorem meets_any (l : List UInt8) (hl : l.length = 32) (b : Nat) (hb : b < 4294967296) (w : World) : Calls Tryz.prog 133 #[.agg (hc l), .int .u32 (b : Int)] w fun e w' => e = .returned (.bool (mt l b)) ∧ Below w.heap.size w w' := by
  have HE := hide fun W => expand_any b hb W
  have HO : Hid (∀ W, Calls Tryz.prog 165 #[.agg (hc l)] W fun e w' => e = .returned (.agg (wn (hv l))) ∧ Below W.heap.size W w') := fun W => by
    have := ofW_any l hl W
    rw [← hv_eq] at this
    exact this
  have hX : xt b < M := Nat.lt_of_le_of_lt (xt_le b) Lm_M
  have HC := hide fun W => compare_any _ _ (hv_lt l) hX W
  have J0 := hide (Rc.start1 w 25 (hc l))
  have hcs := hide (show (hc l).size = 32 by rw [hc_size]; exact hl)
  have hm : mt l b = (okB b && decide (cmpZ (hv l) (xt b) ≤ 0)) := by
    unfold mt xt
    cases okB b
    · rw [Bool.false_and, Bool.false_and]
    · simp only [cmp_leB, if_true]
  rw [hm]
  generalize hv l = V at *
  generalize xt b = X at *
  generalize cmpZ V X = z at *
  clear hm hX hl hb
  generalize okB b = ok at *
  cases ok
  · try simp only [Bool.false_eq_true, if_false] at HE
    go_enter Tryz.func133, Tryz.ntmps133
    go_upto_region 1 with (refine wpList_boxA rfl _ rfl (hc l) rfl ?_)
    generalize w.alloc (.cells (hc l) 25) = W0 at *
    go_upto_region 2 with (first | (go_at_call 130; refine (HE.out _).mono ?_; rintro e w1 ⟨rfl, be⟩; have J1 := hide ((J0.out.next be).new 232 (wn X)); clear be) | refine wpList_allocA AW rfl rfl ?_ | refine wpList_store_newA AW rfl _ _ rfl _ rfl (wn X) (wn_size _) (wn_one _) rfl rfl ?_)
    generalize w1.alloc (.cells (wn X) 232) = W1 at *
    generalize w1.heap.size = g5 at *
    obtain ⟨I, hne, F, i0, h0, hJ, hcl⟩ := J1.out.cls
    refine wp_region_class_lit (by kernel_rfl) (by kernel_rfl) i0 h0 ?_
    repeat (go_big_quiet_step (fail))
    refine wpQuiet_nil ?_
    rintro _ ⟨iq, rfl⟩
    go_wp2
    go_ret
    exact ⟨rfl, (hJ.out iq).bel⟩
  · try simp only [if_true] at HE
    have hzd : ∃ v, decide (z ≤ 0) = v := ⟨_, rfl⟩
    obtain ⟨v, hv⟩ := hzd
    rw [hv]
    go_enter Tryz.func133, Tryz.ntmps133
    go_upto_region 1 with (refine wpList_boxA rfl _ rfl (hc l) rfl ?_)
    generalize w.alloc (.cells (hc l) 25) = W0 at *
    go_upto_region 2 with (first | (go_at_call 130; refine (HE.out _).mono ?_; rintro e w1 ⟨rfl, be⟩; have J1 := hide ((J0.out.next be).new 232 (wn X)); clear be) | refine wpList_allocA AW rfl rfl ?_ | refine wpList_store_newA AW rfl _ _ rfl _ rfl (wn X) (wn_size _) (wn_one _) rfl rfl ?_)
    generalize w1.alloc (.cells (wn X) 232) = W1 at *
    generalize w1.heap.size = g5 at *
    obtain ⟨I, hne, F, i0, h0, hJ, hcl⟩ := J1.out.cls
    refine wp_region_class_lit (by kernel_rfl) (by kernel_rfl) i0 h0 ?_
    repeat (first | ((go_big_quiet_want; first | refine quiet_loadA AW _ (by rfl) g5 (by rfl) (wn X) (wn_size _) 232 (Rc.of hJ (by simp)) ?_ | refine quiet_loadA A25 _ (by rfl) w.heap.size (by rfl) (hc l) hcs.out 25 (Rc.of hJ (by simp)) ?_); go_big_quiet_on; simp only [Act.put, List.setIfInBounds_toArray, List.set_cons_succ, List.set_cons_zero]) | go_big_quiet_step (first | (go_at_call 165; exact class_of hcl.out (HO.out _)) | (go_at_call 161; exact class_of hcl.out (HC.out _))))
    refine wpQuiet_nil ?_
    rintro _ ⟨iq, rfl⟩
    go_wp2
    go_ret
    exact ⟨rfl, (hJ.out iq).bel⟩
end
end Go.Proofs.YtofddbjnncgmlabGreatDoor
