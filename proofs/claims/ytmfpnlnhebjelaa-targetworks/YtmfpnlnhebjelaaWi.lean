/- The contracts of wide.Low, mulAdd, divWord; Div by one word; awake. -/
import Derived.Test.YtmfpnlnhebjelaaWh
namespace Go.Proofs.Ytmfpnlnhebjelaa
open Go.RowKit
open Go.Deep
theorem div64_any (hi lo y : Nat) (hy : hi < y) (hl : lo < 18446744073709551616) (h64 : y < 18446744073709551616) (w : World) : Calls Try.prog 53 #[.int .u64 (hi : Int), .int .u64 (lo : Int), .int .u64 (y : Int)] w fun e w' => e = .returned (.tuple #[.int .u64 (((hi * 18446744073709551616 + lo) / y : Nat) : Int), .int .u64 (((hi * 18446744073709551616 + lo) % y : Nat) : Int)]) ∧ Below w.heap.size w w' := by
  rcases Nat.eq_zero_or_pos hi with h | h
  · subst h
    rw [Nat.zero_mul, Nat.zero_add]
    exact div64_small lo y hl hy w
  · exact div64_big hi lo y h hy hl h64 w
/-- A step of a division by one digit. -/
theorem div_step (B m y i : Nat) (hy : 0 < y) (hB : 0 < B) : (m / B ^ (i + 1) % y * B + dg B m i) / y = dg B (m / y) i ∧ (m / B ^ (i + 1) % y * B + dg B m i) % y = m / B ^ i % y := by
  unfold dg
  have e1 : m / B ^ (i + 1) = m / B ^ i / B := by rw [Nat.pow_succ, Nat.div_div_eq_div_mul]
  have e2 : m / y / B ^ i = m / B ^ i / y := by rw [Nat.div_div_eq_div_mul, Nat.div_div_eq_div_mul, Nat.mul_comm]
  rw [e1, e2]
  generalize m / B ^ i = N
  have hN := Nat.div_add_mod N B
  have hH := Nat.div_add_mod (N / B) y
  have hr := Nat.mod_lt (N / B) hy
  have hl := Nat.mod_lt N hB
  have key : N = y * (N / B / y * B) + (N / B % y * B + N % B) := by
    have : B * (N / B) = y * (N / B / y * B) + N / B % y * B := by
      conv => lhs; rw [← hH]
      rw [Nat.mul_add, Nat.mul_comm B (N / B % y), Nat.mul_comm B (y * _), Nat.mul_assoc]
    omega
  have hlt : (N / B % y * B + N % B) / y < B := by
    rw [Nat.div_lt_iff_lt_mul hy]
    have : (N / B % y + 1) * B ≤ y * B := Nat.mul_le_mul_right _ hr
    rw [Nat.add_mul] at this
    rw [Nat.mul_comm B y]
    omega
  refine ⟨?_, ?_⟩
  · conv => rhs; rw [key]
    rw [Nat.mul_add_div hy, Nat.mul_comm (N / B / y) B, Nat.mul_add_mod, Nat.mod_eq_of_lt hlt]
  · conv => rhs; rw [key]
    rw [Nat.mul_add_mod]
/-- Words of the quotient from i on, words of the number below. -/
def dwf (m y i j : Nat) : Nat := if i ≤ j then wd (m / y) j else wd m j
theorem dwf_four (m y j : Nat) (h : j < 4) : wd m j = dwf m y 4 j := by rw [dwf, if_neg (by omega)]
theorem dwf_zero (m y j : Nat) (_ : j < 4) : dwf m y 0 j = wd (m / y) j := by rw [dwf, if_pos (by omega)]
theorem dwf_step (m y i j : Nat) : (if j = i then wd (m / y) i else dwf m y (i + 1) j) = dwf m y i j := by
  unfold dwf
  by_cases e : j = i
  · rw [if_pos e, if_pos (by omega), e]
  · rw [if_neg e]
    by_cases e2 : i + 1 ≤ j
    · rw [if_pos e2, if_pos (by omega)]
    · rw [if_neg e2, if_neg (by omega)]
theorem dwf_at (m y i : Nat) : dwf m y (i + 1) i = wd m i := by rw [dwf, if_neg (by omega)]
/-- A number in a block of its own, an answer's place in the next. -/
structure Bd (w W : World) (t : TypeId) (f : Nat → Nat) : Prop where
  a : Nd W w.heap.size t 4 f
  r : W.heap[w.heap.size + 1]? = some (.cells (wn 0) t (0, 0))
  bel : Below w.heap.size w W
theorem Bd.start (w : World) (t : TypeId) (m : Nat) : Bd w ((w.alloc (.cells (wn m) t)).alloc (.cells (wn 0) t)) t (wd m) :=
  ⟨Nd.of_heap (blk2x w _ _).1, (blk2x w _ _).2, below2x w _ _⟩
section
variable {w W W' : World} {t : TypeId} {f : Nat → Nat}
theorem Bd.next (j : Bd w W t f) (h : Below W.heap.size W W') : Bd w W' t f :=
  ⟨j.a.below h, (h.block _ (lt_heap j.r)).trans j.r, below_next j.bel h⟩
theorem Bd.set (j : Bd w W t f) (i x : Nat) : Bd w (W.setCell ⟨w.heap.size, i, none⟩ (.int .u64 ((x : Nat) : Int))) t (fun k => if k = i then x else f k) :=
  ⟨j.a.set i x, (Below.heap_setCell _ _ _ _ (by simp)).trans j.r, j.bel.setCell (Nat.le_refl _) _⟩
theorem Bd.congr (j : Bd w W t f) {f' : Nat → Nat} (e : ∀ i, i < 4 → f i = f' i) : Bd w W t f' := ⟨j.a.congr e, j.r, j.bel⟩
end
section
set_option maxRecDepth 10000
set_option maxHeartbeats 1000000
theorem divWord_any (m y : Nat) (hm : m < M) (hy : 0 < y) (hy64 : y < 18446744073709551616) (w : World) : Calls Try.prog 39 #[.agg (wn m), .int .u64 (y : Int)] w fun e w' => e = .returned (.tuple #[.agg (wn (m / y)), .int .u64 ((m % y : Nat) : Int)]) ∧ Below w.heap.size w w' := by
  have J0 := hide ((Bd.start w 24 m).congr (fun i hi => dwf_four m y i hi))
  have HY := hide (And.intro hy hy64)
  have H0 : Hid (m / 18446744073709551616 ^ 4 % y = 0) := by
    unfold Hid
    rw [← M_eq, Nat.div_eq_of_lt hm, Nat.zero_mod]
  have H1 : Hid (m / 18446744073709551616 ^ 0 % y = m % y) := by unfold Hid; simp
  clear hy hy64 hm
  obtain ⟨qq, hqq⟩ : ∃ q, q = m / y := ⟨_, rfl⟩
  obtain ⟨rr, hrr⟩ : ∃ q, q = m % y := ⟨_, rfl⟩
  rw [← hqq, ← hrr]
  have HA := hide (And.intro hqq hrr)
  clear hqq hrr
  go_enter Try.func39, Try.ntmps39
  go_wp2_with (first | refine wpList_boxA rfl _ rfl (wn m) rfl ?_ | refine wpList_allocA AW rfl rfl ?_)
  generalize (w.alloc (.cells (wn m) 24)).alloc (.cells (wn 0) 24) = W0 at *
  go_loopw [6, 7] (fun c d wr => ∃ i : Nat, i ≤ 4 ∧ c = .int .u64 ((m / 18446744073709551616 ^ i % y : Nat) : Int) ∧ d = .int .i64 ((i : Int) - 1) ∧ Hid (Bd w wr 24 (dwf m y i))) (fun _ d _ => (1 + intOf d).toNat)
  case atStart => exact ⟨4, by omega, by rw [H0.out]; rfl, rfl, J0⟩
  case round =>
    clear J0
    obtain ⟨i, hi, rfl, rfl, J⟩ := hrel
    rcases i with _ | i
    · have h0 : ¬ (0 : Int) ≤ ((0 : Nat) : Int) - 1 := by omega
      have H2 := (J.out.a.congr (dwf_zero m y)).heap
      rw [H1.out, ← HA.out.2]
      rw [← HA.out.1] at H2
      go_wp2_with (first | refine wpList_loadA AW rfl _ rfl _ rfl (wn qq) (wn_size _) 24 H2 ?_ | refine wpList_storeA AW rfl _ _ rfl _ (wn qq) (wn_size _) (wn_one _) rfl rfl (wn 0) (wn_size 0) 24 J.out.r ?_)
      exact bodyPost_ret (v := .tuple #[.agg (wn qq), (.int .u64 (rr : Int))]) (resA2 AW Try.results39 _ _ (w.heap.size + 1) 24 (wn qq) (wn_size _) rfl (setRow_heap _ _ _ _ _ _ J.out.r) _ (by rfl)) rfl ⟨rfl, below_setRow J.out.bel (by omega) _⟩
    · have e1 : ((i + 1 : Nat) : Int) - 1 = i := by omega
      have hlt : i < 4 := by omega
      have hi4 : (i : Int) < 4 := by omega
      have b0 : (0 : Int) ≤ i := by omega
      have HD := hide fun W => div64_any (m / 18446744073709551616 ^ (i + 1) % y) (wd m i) y (Nat.mod_lt _ HY.out.1) (wd_lt _ _) HY.out.2 W
      have ds := div_step 18446744073709551616 m y i HY.out.1 (by decide)
      have ds1 : (m / 18446744073709551616 ^ (i + 1) % y * 18446744073709551616 + wd m i) / y = wd (m / y) i := ds.1
      have ds2 : (m / 18446744073709551616 ^ (i + 1) % y * 18446744073709551616 + wd m i) % y = m / 18446744073709551616 ^ i % y := ds.2
      rw [ds1, ds2] at HD
      have ha := J.out.a.cell hlt
      rw [dwf_at] at ha
      rw [e1]
      clear ds ds1 ds2
      have HR : Hid (∀ j, (if j = i then wd (m / y) i else dwf m y (i + 1) j) = dwf m y i j) := fun j => dwf_step m y i j
      obtain ⟨r1, hr1⟩ : ∃ r, r = m / 18446744073709551616 ^ (i + 1) % y := ⟨_, rfl⟩
      obtain ⟨r0, hr0⟩ : ∃ r, r = m / 18446744073709551616 ^ i % y := ⟨_, rfl⟩
      obtain ⟨q0, hq0⟩ : ∃ r, r = wd (m / y) i := ⟨_, rfl⟩
      rw [← hr1, ← hr0, ← hq0] at HD
      rw [← hr1]
      rw [← hq0] at HR
      have HR0 := hide hr0
      clear hr1 hq0 hr0
      go_wp2_with (go_at_call 53; refine (HD.out _).mono ?_; rintro e w3 ⟨rfl, b3⟩; have J3 := hide (J.out.next b3); have c3 := J3.out.a.cell hlt; have f3 := J3.out.a.fz i)
      exact ⟨⟨i, by omega, by rw [HR0.out], rfl, hide ((J3.out.set i q0).congr (fun j _ => HR.out j))⟩, by simp [intOf]; omega⟩
end
end Go.Proofs.Ytmfpnlnhebjelaa
