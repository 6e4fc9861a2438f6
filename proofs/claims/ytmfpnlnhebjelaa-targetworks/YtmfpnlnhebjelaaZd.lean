/- The contracts of wide.Not and wide.Root. -/
import Derived.Test.YtmfpnlnhebjelaaZb
import Derived.Test.YtmfpnlnhebjelaaWo
namespace Go.Proofs.Ytmfpnlnhebjelaa
open Go.RowKit
open Go.Deep
/-- The root of a number, cut down. -/
def rt : Nat → Nat
  | 0 => 0
  | m + 1 => if (rt m + 1) * (rt m + 1) ≤ m + 1 then rt m + 1 else rt m
theorem rt_both (m : Nat) : rt m * rt m ≤ m ∧ m < (rt m + 1) * (rt m + 1) := by
  induction m with
  | zero => exact ⟨by simp [rt], by simp [rt]⟩
  | succ m ih =>
    obtain ⟨h1, h2⟩ := ih
    rw [rt]
    split
    · rename_i h
      refine ⟨h, ?_⟩
      have : (rt m + 1) * (rt m + 1) < (rt m + 1 + 1) * (rt m + 1 + 1) := Nat.mul_lt_mul_of_lt_of_le (by omega) (by omega) (by omega)
      omega
    · rename_i h
      exact ⟨by omega, by omega⟩
theorem rt_le (m : Nat) : rt m * rt m ≤ m := (rt_both m).1
theorem rt_lt (m : Nat) : m < (rt m + 1) * (rt m + 1) := (rt_both m).2
theorem sq_le (m y : Nat) : y * y ≤ m ↔ y ≤ rt m := by
  constructor
  · intro h
    rcases Nat.lt_or_ge (rt m) y with h' | h'
    · have := Nat.mul_le_mul (show rt m + 1 ≤ y from h') (show rt m + 1 ≤ y from h')
      have := rt_lt m
      omega
    · exact h'
  · intro h
    exact Nat.le_trans (Nat.mul_le_mul h h) (rt_le m)
theorem rt_128 (m : Nat) (hm : m < M) : rt m < 2 ^ 128 := by
  rcases Nat.lt_or_ge (rt m) (2 ^ 128) with h | h
  · exact h
  · have h1 := Nat.mul_le_mul h h
    have h2 := rt_le m
    have : M = 2 ^ 128 * 2 ^ 128 := by decide
    omega
/-- The root's bits from n on. -/
def rn (m n : Nat) : Nat := rt m / 2 ^ n * 2 ^ n
theorem rn_bit (m n : Nat) : (rn m (n + 1)).testBit n = false := by
  rw [Nat.testBit, rn, Nat.pow_succ, ← Nat.div_div_eq_div_mul, Nat.mul_comm (2 ^ n) 2, ← Nat.mul_assoc, Nat.shiftRight_eq_div_pow, Nat.mul_div_cancel _ (Nat.two_pow_pos n)]
  simp [Nat.and_comm 1]
theorem rn_step (m n : Nat) : rn m n = if (rn m (n + 1) + 2 ^ n) * (rn m (n + 1) + 2 ^ n) ≤ m then rn m (n + 1) + 2 ^ n else rn m (n + 1) := by
  simp only [sq_le]
  unfold rn
  rw [Nat.pow_succ, ← Nat.div_div_eq_div_mul]
  have h := Nat.div_add_mod (rt m) (2 ^ n)
  have hp := Nat.two_pow_pos n
  have hl := Nat.mod_lt (rt m) hp
  generalize rt m = s at *
  generalize 2 ^ n = p at *
  generalize s % p = r at *
  generalize s / p = q at *
  have h2 := Nat.div_add_mod q 2
  have e1 : q / 2 * (p * 2) = 2 * (q / 2) * p := by rw [← Nat.mul_assoc, Nat.mul_comm (q / 2 * p), ← Nat.mul_assoc]
  rw [e1]
  rcases (show q % 2 = 0 ∨ q % 2 = 1 by omega) with e | e
  · rw [e, Nat.add_zero] at h2
    rw [h2, if_neg]
    rw [Nat.mul_comm q p]
    omega
  · rw [e] at h2
    have e3 : q * p = 2 * (q / 2) * p + p := by conv => lhs; rw [← h2, Nat.add_mul, Nat.one_mul]
    rw [Nat.mul_comm p q] at h
    rw [if_pos (by omega)]
    exact e3
theorem rn_128 (m : Nat) (hm : m < M) : rn m 128 = 0 := by
  rw [rn, Nat.div_eq_of_lt (rt_128 m hm), Nat.zero_mul]
theorem rn_zero (m : Nat) : rn m 0 = rt m := by simp [rn]
theorem rn_try (m n : Nat) (hm : m < M) (hn : n < 128) : rn m (n + 1) + 2 ^ n < 2 ^ 128 := by
  have h1 := rt_128 m hm
  have h2 : rn m (n + 1) ≤ rt m := Nat.div_mul_le_self _ _
  have h3 : rn m (n + 1) = rt m / 2 ^ (n + 1) * 2 ^ (n + 1) := rfl
  have h4 : (2 : Nat) ^ 128 = 2 ^ (127 - n) * 2 ^ (n + 1) := by rw [← Nat.pow_add]; congr 1; omega
  rw [h4] at h1 ⊢
  have h5 : rt m / 2 ^ (n + 1) < 2 ^ (127 - n) := by rw [Nat.div_lt_iff_lt_mul (Nat.two_pow_pos _)]; exact h1
  have h6 : (rt m / 2 ^ (n + 1) + 1) * 2 ^ (n + 1) ≤ 2 ^ (127 - n) * 2 ^ (n + 1) := Nat.mul_le_mul_right _ h5
  rw [Nat.add_mul, Nat.one_mul, ← h3] at h6
  have h7 : (2 : Nat) ^ n < 2 ^ (n + 1) := Nat.pow_lt_pow_right (by decide) (by omega)
  omega
theorem sq_M (y : Nat) (h : y < 2 ^ 128) : y < M ∧ y * y < M ∧ y * y / M = 0 := by
  have e : M = 2 ^ 128 * 2 ^ 128 := by decide
  have h1 : y * y < M := by rw [e]; exact Nat.mul_lt_mul_of_lt_of_le h (by omega) (by decide)
  have h2 : (2 : Nat) ^ 128 < M := by decide
  exact ⟨by omega, h1, Nat.div_eq_of_lt h1⟩
/-- Three rows: a number, an answer's place, a number that grows. -/
structure Tri (w W : World) (t : TypeId) (m r : Nat) : Prop where
  a : W.heap[w.heap.size]? = some (.cells (wn m) t (0, 0))
  b : W.heap[w.heap.size + 1]? = some (.cells (wn 0) t (0, 0))
  c : W.heap[w.heap.size + 1 + 1]? = some (.cells (wn r) t (0, 0))
  bel : Below w.heap.size w W
section
variable {w W W' : World} {t : TypeId} {m r : Nat}
theorem Tri.start (w : World) (t : TypeId) (m r : Nat) : Tri w (((w.alloc (.cells (wn m) t)).alloc (.cells (wn 0) t)).alloc (.cells (wn r) t)) t m r := by
  obtain ⟨e1, e2, e3⟩ := blk3 w (.cells (wn m) t) (.cells (wn 0) t) (.cells (wn r) t)
  exact ⟨e1, e2, e3, below3 w _ _ _⟩
theorem Tri.next (j : Tri w W t m r) (h : Below W.heap.size W W') : Tri w W' t m r := ⟨(h.block _ (lt_heap j.a)).trans j.a, (h.block _ (lt_heap j.b)).trans j.b, (h.block _ (lt_heap j.c)).trans j.c, below_next j.bel h⟩
theorem Tri.put (j : Tri w W t m r) (s : Nat) : Tri w (W.setRow (w.heap.size + 1 + 1) (wn s)) t m s :=
  ⟨(setRow_other _ _ _ _ (by omega)).trans j.a, (setRow_other _ _ _ _ (by omega)).trans j.b, setRow_heap _ _ _ _ _ _ j.c, below_setRow j.bel (by omega) _⟩
theorem Tri.lt (j : Tri w W t m r) : w.heap.size + 1 + 1 < W.heap.size := lt_heap j.c
end
theorem xor_ones (x : Nat) (h : x < 18446744073709551616) : 18446744073709551615 ^^^ x = 18446744073709551615 - x := by
  have e : 18446744073709551615 ^^^ x = (BitVec.allOnes 64 ^^^ BitVec.ofNat 64 x).toNat := by
    rw [BitVec.toNat_xor, BitVec.toNat_allOnes, BitVec.toNat_ofNat, Nat.mod_eq_of_lt h]
  rw [e, BitVec.allOnes_xor, BitVec.toNat_not, BitVec.toNat_ofNat, Nat.mod_eq_of_lt h]
theorem not_bits (x : Nat) (h : x < 18446744073709551616) : bits .xor .u64 (if IntKind.u64.signed = true then -1 else IntKind.u64.max) (x : Int) = ((18446744073709551615 - x : Nat) : Int) := by
  rw [show (if IntKind.u64.signed = true then -1 else IntKind.u64.max) = ((18446744073709551615 : Nat) : Int) from by decide, u64_xor_nat _ _ (by decide) h, xor_ones x h]
section
set_option maxRecDepth 10000
set_option maxHeartbeats 2000000
theorem not_any (m : Nat) (hm : m < M) (w : World) : Calls Try.prog 66 #[.agg (wn m)] w fun e w' => e = .returned (.agg (wn (M - 1 - m))) ∧ Below w.heap.size w w' := by
  have J0 := hide ((Bd.start w 24 m).congr (nwf_zero m))
  have HW : Hid (∀ i, i < 4 → wd (M - 1 - m) i = 18446744073709551615 - wd m i) := fun i hi => not_word m i hm hi
  have a0 := hide (Bd.start w 24 m).a.heap
  clear hm
  go_enter Try.func66, Try.ntmps66
  go_upto_region 1 with (first | refine wpList_boxA rfl _ rfl (wn m) rfl ?_ | refine wpList_allocA AW rfl rfl ?_)
  generalize (w.alloc (.cells (wn m) 24)).alloc (.cells (wn 0) 24) = W0 at *
  go_wp2_with (refine wpList_loadA AW rfl _ rfl _ rfl (wn m) (wn_size _) 24 a0.out ?_)
  go_loopw [3, 4, 6] (fun _ _ d wr => ∃ i : Nat, i ≤ 4 ∧ d = .int .i64 i ∧ Hid (Bd w wr 24 (nwf m i))) (fun _ _ d _ => (4 - intOf d).toNat)
  case atStart => exact ⟨0, by omega, rfl, J0⟩
  case round =>
    clear J0
    obtain ⟨i, hi, rfl, J⟩ := hrel
    by_cases hlt : i < 4
    · have hi4 : (i : Int) < 4 := by omega
      have i0 : (0 : Int) ≤ i := by omega
      have ca := J.out.a.cell hlt
      have fa := J.out.a.fz i
      have hw : bits .xor .u64 (if IntKind.u64.signed = true then -1 else IntKind.u64.max) ((wd m i : Nat) : Int) = ((wd (M - 1 - m) i : Nat) : Int) := by
        rw [not_bits _ (wd_lt m i), HW.out i hlt]
      have HR : Hid (∀ j, (if j = i then wd (M - 1 - m) i else nwf m i j) = nwf m (i + 1) j) := fun j => nwf_step m i j
      have hiw : IntKind.i64.wrap ((i : Int) + 1) = i + 1 := wrapI _ (by omega) (by omega)
      have LL := hide hlt
      clear hi
      generalize wd (M - 1 - m) i = s at *
      go_wp2_with (refine wpList_indexW rfl _ _ rfl m i rfl rfl LL.out ?_)
      have L4 := LL.out
      exact ⟨⟨i + 1, by omega, by go_num, hide ((J.out.set i s).congr (fun j _ => HR.out j))⟩, by simp [intOf]; omega⟩
    · have hke : i = 4 := by omega
      subst hke
      have H2 := (J.out.a.congr (nwf_four m)).heap
      go_wp2_with (first | refine wpList_loadA AW rfl _ rfl _ rfl (wn (M - 1 - m)) (wn_size _) 24 H2 ?_ | refine wpList_storeA AW rfl _ _ rfl _ (wn (M - 1 - m)) (wn_size _) (wn_one _) rfl rfl (wn 0) (wn_size 0) 24 J.out.r ?_)
      exact bodyPost_ret (v := .agg (wn (M - 1 - m))) (resA AW Try.results66 _ _ (w.heap.size + 1) 24 (wn (M - 1 - m)) (wn_size _) rfl (setRow_heap _ _ _ _ _ _ J.out.r)) rfl ⟨rfl, below_setRow J.out.bel (by omega) _⟩
end
end Go.Proofs.Ytmfpnlnhebjelaa
