/- The contract of the document's Div. -/
import Derived.Test.YtmfpnlnhebjelaaZj
import Derived.Test.YtmfpnlnhebjelaaZg
namespace Go.Proofs.Ytmfpnlnhebjelaa
open Go.RowKit
open Go.Deep
/-- What is left behind the bits from n on, and the quotient. -/
def dr (m d n : Nat) : Nat := m / 2 ^ n % d
def dq (m d n : Nat) : Nat := m / 2 ^ n / d * 2 ^ n
/-- What is left twice, and the next bit. -/
def dv (m d k : Nat) : Nat := 2 * dr m d (k + 1) + if m.testBit k then 1 else 0
theorem half_bit (m k : Nat) : m / 2 ^ k = 2 * (m / 2 ^ (k + 1)) + if m.testBit k then 1 else 0 := by
  have h := Nat.div_add_mod (m / 2 ^ k) 2
  rw [Nat.div_div_eq_div_mul, ← Nat.pow_succ] at h
  rw [← h]
  congr 1
  rw [Nat.testBit_eq_decide_div_mod_eq]
  have := Nat.mod_lt (m / 2 ^ k) (show 0 < 2 by decide)
  rw [show 2 * (m / 2 ^ (k + 1)) + m / 2 ^ k % 2 = m / 2 ^ k from h] at *
  by_cases e : m / 2 ^ k % 2 = 1
  · simp [e]
  · simp [e]; omega
theorem div_next (m d k : Nat) (hd : 0 < d) : dv m d k < 2 * d ∧ (dv m d k < d → dr m d k = dv m d k ∧ dq m d k = dq m d (k + 1)) ∧ (¬ dv m d k < d → dr m d k = dv m d k - d ∧ dq m d k = dq m d (k + 1) + 2 ^ k) := by
  unfold dv dr dq
  rw [half_bit m k]
  have hb : (if m.testBit k then 1 else 0) ≤ 1 := by split <;> omega
  generalize (if m.testBit k then 1 else 0) = b at *
  generalize m / 2 ^ (k + 1) = T at *
  have h1 := Nat.div_add_mod T d
  have h2 := Nat.mod_lt T hd
  rw [Nat.pow_succ]
  generalize 2 ^ k = P at *
  generalize T % d = r at *
  generalize T / d = q at *
  have e : 2 * T + b = d * (2 * q) + (2 * r + b) := by
    rw [← h1, Nat.mul_add, Nat.mul_left_comm]
    omega
  rw [e, Nat.mul_add_mod, Nat.mul_add_div hd]
  have e2 : q * (P * 2) = 2 * q * P := by rw [Nat.mul_comm P 2, ← Nat.mul_assoc, Nat.mul_comm q 2]
  rw [e2]
  refine ⟨by omega, fun h => ?_, fun h => ?_⟩
  · rw [Nat.mod_eq_of_lt h, Nat.div_eq_of_lt h]
    simp
  · rw [Nat.mod_eq_sub_mod (by omega), Nat.mod_eq_of_lt (by omega), Nat.div_eq_sub_div hd (by omega), Nat.div_eq_of_lt (by omega), Nat.add_mul]
    simp
theorem dq_bit (m d k : Nat) : (dq m d (k + 1)).testBit k = false := by
  rw [Nat.testBit, dq, Nat.pow_succ, Nat.mul_comm (2 ^ k) 2, ← Nat.mul_assoc, Nat.shiftRight_eq_div_pow, Nat.mul_div_cancel _ (Nat.two_pow_pos k), Nat.mul_comm _ 2]
  simp [Nat.and_comm 1]
theorem dr_lt (m d n : Nat) (hd : 0 < d) : dr m d n < d := Nat.mod_lt _ hd
theorem dr_end (m d : Nat) : dr m d 0 = m % d ∧ dq m d 0 = m / d := by simp [dr, dq]
theorem dr_start (m d : Nat) (hm : m < M) : dr m d 256 = 0 ∧ dq m d 256 = 0 := by
  rw [dr, dq, ← M_pow, Nat.div_eq_of_lt hm]
  simp
theorem top_bit (r : Nat) (hr : r < M) : 9223372036854775808 ≤ wd r 3 ↔ M ≤ 2 * r := by
  unfold wd dg
  rw [show (18446744073709551616 : Nat) ^ 3 = 6277101735386680763835789423207666416102355444464034512896 by decide]
  unfold M at *
  omega
/-- One more in the lowest word of an even number. -/
theorem odd_word (x : Nat) : wd (2 * x) 0 + 1 < 18446744073709551616 ∧ ∀ j, (if j = 0 then wd (2 * x) 0 + 1 else wd (2 * x) j) = wd (2 * x + 1) j := by
  have h0 : wd (2 * x) 0 + 1 < 18446744073709551616 := by unfold wd dg; omega
  refine ⟨h0, fun j => ?_⟩
  split
  · rename_i h
    subst h
    unfold wd dg at *
    omega
  · rename_i h
    unfold wd dg
    obtain ⟨i, rfl⟩ : ∃ i, j = i + 1 := ⟨j - 1, by omega⟩
    rw [Nat.pow_succ, Nat.mul_comm (_ ^ i), ← Nat.div_div_eq_div_mul, ← Nat.div_div_eq_div_mul, show (2 * x + 1) / 18446744073709551616 = 2 * x / 18446744073709551616 by omega]
/-- Six rows of a division. -/
structure Dv (w W : World) (t : TypeId) (m n q r : Nat) : Prop where
  a : W.heap[w.heap.size]? = some (.cells (wn m) t (0, 0))
  b : W.heap[w.heap.size + 1]? = some (.cells (wn n) t (0, 0))
  r1 : W.heap[w.heap.size + 1 + 1]? = some (.cells (wn 0) t (0, 0))
  r2 : W.heap[w.heap.size + 1 + 1 + 1]? = some (.cells (wn 0) t (0, 0))
  q : Nd W (w.heap.size + 1 + 1 + 1 + 1) t 4 (wd q)
  r : Nd W (w.heap.size + 1 + 1 + 1 + 1 + 1) t 4 (wd r)
  bel : Below w.heap.size w W
section
variable {w W W' : World} {t : TypeId} {m n q r : Nat}
theorem Dv.next (j : Dv w W t m n q r) (h : Below W.heap.size W W') : Dv w W' t m n q r :=
  ⟨(h.block _ (lt_heap j.a)).trans j.a, (h.block _ (lt_heap j.b)).trans j.b, (h.block _ (lt_heap j.r1)).trans j.r1, (h.block _ (lt_heap j.r2)).trans j.r2, j.q.below h, j.r.below h, below_next j.bel h⟩
theorem Dv.drew (j : Dv w W t m n q r) : Dv w W.drew t m n q r := ⟨j.a, j.b, j.r1, j.r2, j.q, j.r, j.bel.drew⟩
theorem Dv.put (j : Dv w W t m n q r) (s : Nat) : Dv w (W.setRow (w.heap.size + 1 + 1 + 1 + 1 + 1) (wn s)) t m n q s :=
  ⟨(setRow_other _ _ _ _ (by omega)).trans j.a, (setRow_other _ _ _ _ (by omega)).trans j.b, (setRow_other _ _ _ _ (by omega)).trans j.r1, (setRow_other _ _ _ _ (by omega)).trans j.r2, j.q.row (by omega) _, Nd.of_heap (setRow_heap _ _ _ _ _ _ j.r.heap), below_setRow j.bel (by omega) _⟩
theorem Dv.setr (j : Dv w W t m n q r) (i x s : Nat) (h : ∀ k, (if k = i then x else wd r k) = wd s k) : Dv w (W.setCell ⟨w.heap.size + 1 + 1 + 1 + 1 + 1, i, none⟩ (.int .u64 ((x : Nat) : Int))) t m n q s :=
  ⟨(Below.heap_setCell _ _ _ _ (by simp <;> omega)).trans j.a, (Below.heap_setCell _ _ _ _ (by simp <;> omega)).trans j.b, (Below.heap_setCell _ _ _ _ (by simp <;> omega)).trans j.r1, (Below.heap_setCell _ _ _ _ (by simp <;> omega)).trans j.r2, j.q.other (by omega) _ _, (j.r.set i x).congr (fun k _ => h k), j.bel.setCell (by simp <;> omega) _⟩
theorem Dv.setq (j : Dv w W t m n q r) (i x s : Nat) (h : ∀ k, (if k = i then x else wd q k) = wd s k) : Dv w (W.setCell ⟨w.heap.size + 1 + 1 + 1 + 1, i, none⟩ (.int .u64 ((x : Nat) : Int))) t m n s r :=
  ⟨(Below.heap_setCell _ _ _ _ (by simp <;> omega)).trans j.a, (Below.heap_setCell _ _ _ _ (by simp <;> omega)).trans j.b, (Below.heap_setCell _ _ _ _ (by simp <;> omega)).trans j.r1, (Below.heap_setCell _ _ _ _ (by simp <;> omega)).trans j.r2, (j.q.set i x).congr (fun k _ => h k), j.r.other (by omega) _ _, j.bel.setCell (by simp <;> omega) _⟩
theorem Dv.congr (j : Dv w W t m n q r) (s : Nat) (h : wn r = wn s) : Dv w W t m n q s := by
  have e := j.r.heap
  rw [show nc 4 (wd r) = wn s from h] at e
  exact ⟨j.a, j.b, j.r1, j.r2, j.q, Nd.of_heap e, j.bel⟩
theorem Dv.two (j : Dv w W t m n q r) (c d : Array Value) : ((W.setRow (w.heap.size + 1 + 1) c).setRow (w.heap.size + 1 + 1 + 1) d).heap[w.heap.size + 1 + 1]? = some (.cells c t (0, 0)) ∧ ((W.setRow (w.heap.size + 1 + 1) c).setRow (w.heap.size + 1 + 1 + 1) d).heap[w.heap.size + 1 + 1 + 1]? = some (.cells d t (0, 0)) ∧ Below w.heap.size w ((W.setRow (w.heap.size + 1 + 1) c).setRow (w.heap.size + 1 + 1 + 1) d) :=
  ⟨(setRow_other _ _ _ _ (by omega)).trans (setRow_heap _ _ _ _ _ _ j.r1), setRow_heap _ _ _ _ _ _ ((setRow_other _ _ _ _ (by omega)).trans j.r2), below_setRow (below_setRow j.bel (by omega) _) (by omega) _⟩
end
theorem blk6w (w : World) (t : TypeId) (m n : Nat) : Dv w ((((((((w.alloc (.cells (wn m) t)).alloc (.cells (wn n) t)).alloc (.cells (wn 0) t)).alloc (.cells (wn 0) t)).alloc (.cells (wn 0) t)).alloc (.cells (wn 0) t)).setRow (w.heap.size + 1 + 1 + 1 + 1) (wn 0)).setRow (w.heap.size + 1 + 1 + 1 + 1 + 1) (wn 0)) t m n 0 0 := by
  have d := Dl.start w t m n
  have hs : (((((w.alloc (.cells (wn m) t)).alloc (.cells (wn n) t)).alloc (.cells (wn 0) t)).alloc (.cells (wn 0) t)).alloc (.cells (wn 0) t)).heap.size = w.heap.size + 1 + 1 + 1 + 1 + 1 := by simp
  have e := heap_alloc_last (((((w.alloc (.cells (wn m) t)).alloc (.cells (wn n) t)).alloc (.cells (wn 0) t)).alloc (.cells (wn 0) t)).alloc (.cells (wn 0) t)) (.cells (wn 0) t)
  rw [hs] at e
  have d2 := d.alloc (.cells (wn 0) t)
  generalize (((((w.alloc (.cells (wn m) t)).alloc (.cells (wn n) t)).alloc (.cells (wn 0) t)).alloc (.cells (wn 0) t)).alloc (.cells (wn 0) t)).alloc (.cells (wn 0) t) = W at *
  have z : Dv w W t m n 0 0 := ⟨d2.a, d2.b, d2.r, d2.s, Nd.of_heap d2.q, Nd.of_heap e, d2.bel⟩
  have y : Dv w (W.setRow (w.heap.size + 1 + 1 + 1 + 1) (wn 0)) t m n 0 0 := ⟨(setRow_other _ _ _ _ (by omega)).trans z.a, (setRow_other _ _ _ _ (by omega)).trans z.b, (setRow_other _ _ _ _ (by omega)).trans z.r1, (setRow_other _ _ _ _ (by omega)).trans z.r2, Nd.of_heap (setRow_heap _ _ _ _ _ _ z.q.heap), z.r.row (by omega) _, below_setRow z.bel (by omega) _⟩
  exact y.put 0
end Go.Proofs.Ytmfpnlnhebjelaa
