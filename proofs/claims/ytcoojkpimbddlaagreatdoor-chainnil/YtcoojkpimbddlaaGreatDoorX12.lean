/- The contracts of wide.withBit and the document's Not. The contracts of wide.Left and Right. The contracts of wide.divLong and wide.Div. Rows of numbers in a world, and classes of worlds that have them. Numbers of 40 bytes: their cells; the contracts of the document's Less and Zero. -/
import Derived.Test.YtcoojkpimbddlaaGreatDoorX11
namespace Go.Proofs.YtcoojkpimbddlaaGreatDoor
open Go.RowKit
open Go.Deep
theorem Bd.drew {w W : World} {t : TypeId} {f : Nat → Nat} (j : Bd w W t f) : Bd w W.drew t f := ⟨j.a, j.r, j.bel.drew⟩
section
set_option maxRecDepth 10000
set_option maxHeartbeats 2000000
theorem withBit_any (m n : Nat) (hn : n < 256) (hb : m.testBit n = false) (w : World) : Calls Tryz.prog 293 #[.agg (wn m), .int .i64 (n : Int)] w fun e w' => e = .returned (.agg (wn (m + 2 ^ n))) ∧ Below w.heap.size w w' := by
  have J0 := hide (Bd.start w 51 m)
  obtain ⟨p1, p2, p3⟩ := wd_put m n hb
  have hor := u64_or_nat (wd m (n / 64)) (2 ^ (n % 64)) (wd_lt _ _) (Nat.pow_lt_pow_right (a := 2) (by decide) (show n % 64 < 64 by omega))
  rw [p1] at hor
  have hshl := one_shl (n % 64) (by omega)
  have d1 : (n : Int) / 64 = ((n / 64 : Nat) : Int) := by omega
  have d2 : (n : Int) % 64 = ((n % 64 : Nat) : Int) := by omega
  have hd0 : (0 : Int) ≤ n := by omega
  have hq4 : ((n / 64 : Nat) : Int) < 4 := by omega
  have hq0 : (0 : Int) ≤ ((n / 64 : Nat) : Int) := by omega
  have hr6 : ((n % 64 : Nat) : Int) ≤ 64 := by omega
  have hr0 : (0 : Int) ≤ ((n % 64 : Nat) : Int) := by omega
  have HP : Hid (∀ j, (if j = n / 64 then wd m (n / 64) + 2 ^ (n % 64) else wd m j) = wd (m + 2 ^ n) j) := fun j => (p3 j).symm
  have Q4 := hide (show n / 64 < 4 by omega)
  clear p1 p2 p3 hb hn
  generalize hq : n / 64 = q at *
  generalize hr : n % 64 = r at *
  clear hq hr
  obtain ⟨s, hs⟩ : ∃ s, s = wd m q + 2 ^ r := ⟨_, rfl⟩
  rw [← hs] at hor HP
  obtain ⟨p, hpw⟩ : ∃ p, p = 2 ^ r := ⟨_, rfl⟩
  rw [← hpw] at hor hshl
  clear hs hpw
  generalize m + 2 ^ n = U at *
  go_enter Tryz.func293, Tryz.ntmps293
  go_upto_region 1 with (first | refine wpList_boxA rfl _ rfl (wn m) rfl ?_ | refine wpList_allocA AW rfl rfl ?_)
  generalize (w.alloc (.cells (wn m) 51)).alloc (.cells (wn 0) 51) = W0 at *
  have cq := J0.out.a.cell Q4.out
  have fq := J0.out.a.fz q
  simp only [Act.put, List.setIfInBounds_toArray, List.set_cons_succ, List.set_cons_zero]
  rw [show (w.alloc (.cells (wn m) 51)).heap.size = w.heap.size + 1 by simp]
  go_region
  have J1 := hide ((J0.out.set q s).congr (fun j _ => HP.out j)).drew
  generalize (W0.setCell ⟨w.heap.size, q, none⟩ (.int .u64 (s : Int))).drew = W1 at *
  have H2 := hide J1.out.a.heap
  clear J0 cq fq
  go_wp2_with (first | refine wpList_loadA AW rfl _ rfl _ rfl (wn U) (wn_size _) 51 H2.out ?_ | refine wpList_storeA AW rfl _ _ rfl _ (wn U) (wn_size _) (wn_one _) rfl rfl (wn 0) (wn_size 0) 51 J1.out.r ?_)
  exact bodyPost_ret (v := .agg (wn U)) (resA AW Tryz.results293 _ _ (w.heap.size + 1) 51 (wn U) (wn_size _) rfl (setRow_heap _ _ _ _ _ _ J1.out.r)) rfl ⟨rfl, below_setRow J1.out.bel (by omega) _⟩
def nwf (m i j : Nat) : Nat := if j < i then wd (M - 1 - m) j else wd m j
theorem nwf_step (m i j : Nat) : (if j = i then wd (M - 1 - m) i else nwf m i j) = nwf m (i + 1) j := by
  unfold nwf
  by_cases e : j = i
  · rw [if_pos e, if_pos (by omega), e]
  · rw [if_neg e]
    by_cases e2 : j < i
    · rw [if_pos e2, if_pos (by omega)]
    · rw [if_neg e2, if_neg (by omega)]
theorem nwf_four (m j : Nat) (h : j < 4) : nwf m 4 j = wd (M - 1 - m) j := by rw [nwf, if_pos h]
theorem nwf_zero (m j : Nat) (_ : j < 4) : wd m j = nwf m 0 j := by rw [nwf, if_neg (by omega)]
end
theorem lost_iff (m k : Nat) (hk : k ≤ 256) : (m * 2 ^ k % M / 2 ^ k = m) ↔ ¬ M ≤ m * 2 ^ k := by
  have hp := Nat.two_pow_pos k
  have e : M = 2 ^ (256 - k) * 2 ^ k := by rw [M_pow, ← Nat.pow_add, show 256 - k + k = 256 by omega]
  constructor
  · intro h h'
    have h1 := Nat.mod_lt (m * 2 ^ k) M_pos
    have h2 : m * 2 ^ k % M / 2 ^ k < 2 ^ (256 - k) := by
      rw [Nat.div_lt_iff_lt_mul hp, ← e]
      exact h1
    rw [h] at h2
    have h3 := Nat.mul_lt_mul_of_pos_right h2 hp
    rw [← e] at h3
    omega
  · intro h
    rw [Nat.mod_eq_of_lt (by omega), Nat.mul_div_cancel _ hp]
attribute [local go_sem ↓] ldW_eq svW_eq
section
set_option maxRecDepth 10000
set_option maxHeartbeats 2000000
theorem left_neg (m : Nat) (n : Int) (k : Nat) (hm : m < M) (h : n < 0) (hk : -(sh n) = k) (hk2 : k ≤ 256) (w : World) : Calls Tryz.prog 234 #[.agg (wn m), .int .i64 n] w fun e w' => e = .returned (.tuple #[.agg (wn (m / 2 ^ k)), .bool false]) ∧ Below w.heap.size w w' := by
  have J0 := hide (Bd.start w 51 m)
  have HS := hide fun W => short_any n W
  have HD := hide fun W => down_any m k hm hk2 W
  have hs : sh n < 0 := by unfold sh; split <;> omega
  have hw : IntKind.i64.wrap (-(sh n)) = k := by rw [hk]; exact wrapI _ (by omega) (by omega)
  clear hk h hm hk2
  generalize sh n = s at *
  generalize m / 2 ^ k = D at *
  go_enter Tryz.func234, Tryz.ntmps234
  go_upto_region 1 with (first | refine wpList_boxA rfl _ rfl (wn m) rfl ?_ | refine wpList_allocA AW rfl rfl ?_)
  generalize (w.alloc (.cells (wn m) 51)).alloc (.cells (wn 0) 51) = W0 at *
  have a0 := hide J0.out.a.heap
  go_wp2_with (first | (go_at_call 287; refine (HS.out _).mono ?_; rintro e w3 ⟨rfl, hw3⟩; subst w3) | refine wpList_loadA AW rfl _ rfl _ rfl (wn m) (wn_size _) 51 a0.out ?_ | (go_at_call 288; refine (HD.out _).mono ?_; rintro e w4 ⟨rfl, b4⟩; have J4 := hide (J0.out.next b4); have r4 := hide J4.out.r; clear b4) | refine wpList_storeA AW rfl _ _ rfl _ (wn D) (wn_size _) (wn_one _) rfl rfl (wn 0) (wn_size 0) 51 r4.out ?_)
  exact bodyPost_ret (v := .tuple #[.agg (wn D), .bool false]) (resA2 AW Tryz.results234 _ _ (w.heap.size + 1) 51 (wn D) (wn_size _) rfl (setRow_heap _ _ _ _ _ _ J4.out.r) _ (by rfl)) rfl ⟨rfl, below_setRow J4.out.bel (by omega) _⟩
theorem left_pos (m : Nat) (n : Int) (k : Nat) (hm : m < M) (hk : sh n = k) (hk2 : k ≤ 256) (w : World) : Calls Tryz.prog 234 #[.agg (wn m), .int .i64 n] w fun e w' => e = .returned (.tuple #[.agg (wn (m * 2 ^ k)), .bool (decide (M ≤ m * 2 ^ k))]) ∧ Below w.heap.size w w' := by
  have J0 := hide (Bd.start w 51 m)
  have HS := hide fun W => short_any n W
  rw [hk] at HS
  have HU := hide fun W => up_any m k hk2 W
  have HD := hide fun W => down_any (m * 2 ^ k % M) k (Nat.mod_lt _ M_pos) hk2 W
  have HE := fun W => eqW (m * 2 ^ k % M / 2 ^ k) m (Nat.lt_of_le_of_lt (Nat.div_le_self _ _) (Nat.mod_lt _ M_pos)) hm W
  have hd : decide (M ≤ m * 2 ^ k) = !decide (m * 2 ^ k % M / 2 ^ k = m) := by
    have := lost_iff m k hk2
    by_cases h1 : M ≤ m * 2 ^ k
    · simp [h1, this]
    · simp [h1, this]
  have hs : ¬ (k : Int) < 0 := by omega
  rw [hd]
  rw [wn_mod] at HD
  clear hk hk2 hm hd
  generalize decide (m * 2 ^ k % M / 2 ^ k = m) = v at *
  generalize m * 2 ^ k % M / 2 ^ k = D at *
  generalize m * 2 ^ k = U at *
  have eg : ∀ x y W, _ := fun x y W => run_eqGuard_agg (P := Tryz.prog) W .neq 51 x y (wn D) (wn m) eqgW
  go_enter Tryz.func234, Tryz.ntmps234
  go_upto_region 1 with (first | refine wpList_boxA rfl _ rfl (wn m) rfl ?_ | refine wpList_allocA AW rfl rfl ?_)
  generalize (w.alloc (.cells (wn m) 51)).alloc (.cells (wn 0) 51) = W0 at *
  have a0 := hide J0.out.a.heap
  go_upto_region 5 with (first | (go_at_call 287; refine (HS.out _).mono ?_; rintro e w3 ⟨rfl, hw3⟩; subst w3) | refine wpList_loadA AW rfl _ rfl _ rfl (wn m) (wn_size _) 51 a0.out ?_ | (go_at_call 289; refine (HU.out _).mono ?_; rintro e w4 ⟨rfl, b4⟩; have J4 := hide (J0.out.next b4); clear b4) | refine wpList_allocA AW rfl rfl ?_ | refine wpList_store_newA AW rfl _ _ rfl _ rfl (wn U) (wn_size _) (wn_one _) rfl rfl ?_)
  have J5 := hide (J4.out.next ((Below.refl _ _).alloc (Nat.le_refl _) (.cells (wn U) 51)))
  have H6 := hide (heap_alloc_last w4 (.cells (wn U) 51))
  generalize w4.alloc (.cells (wn U) 51) = W5 at *
  generalize w4.heap.size = g at *
  clear J4 J0 a0 HS HU
  have l0 : (ldW (.pointer (some ⟨g, 0, none⟩))).run Tryz.prog W5.drew = .ok (.agg (wn U)) W5.drew := ldW_row (W := W5.drew) H6.out
  have l1 : (ldW (.pointer (some ⟨w.heap.size, 0, none⟩))).run Tryz.prog W5.drew = .ok (.agg (wn m)) W5.drew := ldW_row (W := W5.drew) J5.out.a.heap
  have B5 := hide ((Below.refl W5.heap.size W5).drew)
  go_region_with (go_at_call 288; refine (HD.out _).mono ?_; rintro e w6 ⟨rfl, be⟩; have J6 := hide (J5.out.next (B5.out.trans be)); have l2 := ldW_row ((be.block _ (lt_heap H6.out)).trans H6.out); have l3 := ldW_row (W := w6) J6.out.a.heap; have s1 := svW_row J6.out.r U; have l4 := ldW_row (W := w6.setRow (w.heap.size + 1) (wn U)) ((setRow_other _ _ _ _ (by omega)).trans J6.out.a.heap); clear be)
  all_goals (go_wp2; exact bodyPost_ret (v := .tuple #[.agg (wn U), .bool !v]) (resA2 AW Tryz.results234 _ _ (w.heap.size + 1) 51 (wn U) (wn_size _) rfl (setRow_heap _ _ _ _ _ _ J6.out.r) _ (by rfl)) rfl ⟨rfl, below_setRow J6.out.bel (by omega) _⟩)
end
theorem hsz (w : World) (o : Obj) : (w.alloc o).heap.size = w.heap.size + 1 := by simp
structure Lq (m n J cur q : Nat) : Prop where
  eq : m = q * n + cur
  lt : cur < n * 2 ^ J
  dv : q % 2 ^ J = 0
  up : ∀ k, J = k + 1 → n * 2 ^ k < M
theorem Lq.start (m n : Nat) (hm : m < M) (h0 : 0 < n) : Lq m n ((bl m : Int) - (bl n : Int) + 1).toNat m 0 := by
  have a1 := bl_lt m
  have a2 := bl_le n h0
  have a3 := bl_lt n
  have a4 := bl_pos n h0
  refine ⟨by simp, ?_, Nat.zero_mod _, fun k hk => ?_⟩
  · rcases Nat.lt_or_ge (bl m) (bl n) with h | h
    · rw [show ((bl m : Int) - (bl n : Int) + 1).toNat = 0 by omega, Nat.pow_zero, Nat.mul_one]
      have : 2 ^ bl m ≤ 2 ^ (bl n - 1) := Nat.pow_le_pow_right (by decide) (by omega)
      omega
    · rw [show ((bl m : Int) - (bl n : Int) + 1).toNat = bl m - bl n + 1 by omega]
      have e : 2 ^ bl m = 2 ^ (bl n - 1) * 2 ^ (bl m - bl n + 1) := by rw [← Nat.pow_add]; congr 1; omega
      have := Nat.mul_le_mul_right (2 ^ (bl m - bl n + 1)) a2
      omega
  · have e : 2 ^ bl m = 2 ^ bl n * 2 ^ k := by rw [← Nat.pow_add]; congr 1; omega
    have h1 := bl_le_of m 256 (by rw [← M_pow]; exact hm)
    have h2 : 2 ^ bl m ≤ 2 ^ 256 := Nat.pow_le_pow_right (by decide) h1
    have h3 := Nat.mul_lt_mul_of_pos_right a3 (Nat.two_pow_pos k)
    rw [M_pow]
    omega
theorem Lq.no {m n k cur q : Nat} (j : Lq m n (k + 1) cur q) (h : cur < n * 2 ^ k) : Lq m n k cur q := by
  refine ⟨j.eq, h, ?_, fun i hi => ?_⟩
  · have := j.dv
    rw [Nat.pow_succ] at this
    exact Nat.mod_eq_zero_of_dvd (Nat.dvd_trans (Nat.dvd_mul_right _ _) (Nat.dvd_of_mod_eq_zero this))
  · have h1 := j.up k rfl
    have : n * 2 ^ i ≤ n * 2 ^ k := Nat.mul_le_mul_left _ (Nat.pow_le_pow_right (by decide) (by omega))
    omega
theorem Lq.yes {m n k cur q : Nat} (j : Lq m n (k + 1) cur q) (h : ¬ cur < n * 2 ^ k) : Lq m n k (cur - n * 2 ^ k) (q + 2 ^ k) := by
  have e1 := j.eq
  have e2 := j.lt
  rw [Nat.pow_succ, ← Nat.mul_assoc] at e2
  refine ⟨?_, by omega, ?_, fun i hi => ?_⟩
  · rw [Nat.add_mul, Nat.mul_comm (2 ^ k) n]
    omega
  · have := j.dv
    rw [Nat.pow_succ] at this
    have h2 := Nat.dvd_trans (Nat.dvd_mul_right (2 ^ k) 2) (Nat.dvd_of_mod_eq_zero this)
    exact Nat.mod_eq_zero_of_dvd (Nat.dvd_add h2 (Nat.dvd_refl _))
  · have h1 := j.up k rfl
    have : n * 2 ^ i ≤ n * 2 ^ k := Nat.mul_le_mul_left _ (Nat.pow_le_pow_right (by decide) (by omega))
    omega
theorem Lq.bit {m n k cur q : Nat} (j : Lq m n (k + 1) cur q) : q.testBit k = false := by
  have := j.dv
  obtain ⟨c, hc⟩ := Nat.dvd_of_mod_eq_zero this
  rw [hc, Nat.testBit, Nat.shiftRight_eq_div_pow, Nat.pow_succ, Nat.mul_assoc, Nat.mul_div_cancel_left _ (Nat.two_pow_pos k)]
  simp [Nat.and_comm 1]
theorem Lq.fin {m n cur q : Nat} (j : Lq m n 0 cur q) : q = m / n ∧ cur = m % n := by
  have e := j.eq
  have l := j.lt
  rw [Nat.pow_zero, Nat.mul_one] at l
  subst e
  have h0 : 0 < n := by omega
  rw [Nat.mul_comm q n, Nat.mul_add_div h0, Nat.div_eq_of_lt l, Nat.mul_add_mod, Nat.mod_eq_of_lt l]
  simp
theorem Lq.le {m n J cur q : Nat} (j : Lq m n J cur q) : cur ≤ m ∧ (0 < n → q ≤ m) := by
  have e := j.eq
  refine ⟨by omega, fun h => ?_⟩
  have := Nat.le_mul_of_pos_right q h
  omega
structure Dl (w W : World) (t : TypeId) (cur n q : Nat) : Prop where
  a : W.heap[w.heap.size]? = some (.cells (wn cur) t (0, 0))
  b : W.heap[w.heap.size + 1]? = some (.cells (wn n) t (0, 0))
  r : W.heap[w.heap.size + 1 + 1]? = some (.cells (wn 0) t (0, 0))
  s : W.heap[w.heap.size + 1 + 1 + 1]? = some (.cells (wn 0) t (0, 0))
  q : W.heap[w.heap.size + 1 + 1 + 1 + 1]? = some (.cells (wn q) t (0, 0))
  bel : Below w.heap.size w W
section
variable {w W W' : World} {t : TypeId} {cur n q : Nat}
theorem Dl.start (w : World) (t : TypeId) (m n : Nat) : Dl w (((((w.alloc (.cells (wn m) t)).alloc (.cells (wn n) t)).alloc (.cells (wn 0) t)).alloc (.cells (wn 0) t)).alloc (.cells (wn 0) t)) t m n 0 := by
  obtain ⟨e1, e2, e3, e4⟩ := blk4 w (.cells (wn m) t) (.cells (wn n) t) (.cells (wn 0) t) (.cells (wn 0) t)
  have b4 := below4 w (.cells (wn m) t) (.cells (wn n) t) (.cells (wn 0) t) (.cells (wn 0) t)
  have hs : ((((w.alloc (.cells (wn m) t)).alloc (.cells (wn n) t)).alloc (.cells (wn 0) t)).alloc (.cells (wn 0) t)).heap.size = w.heap.size + 1 + 1 + 1 + 1 := by simp
  have e5 := heap_alloc_last ((((w.alloc (.cells (wn m) t)).alloc (.cells (wn n) t)).alloc (.cells (wn 0) t)).alloc (.cells (wn 0) t)) (.cells (wn 0) t)
  rw [hs] at e5
  exact ⟨(Below.heap_alloc _ _ _ (lt_heap e1)).trans e1, (Below.heap_alloc _ _ _ (lt_heap e2)).trans e2, (Below.heap_alloc _ _ _ (lt_heap e3)).trans e3, (Below.heap_alloc _ _ _ (lt_heap e4)).trans e4, e5, b4.alloc (by simp; omega) _⟩
theorem Dl.next (j : Dl w W t cur n q) (h : Below W.heap.size W W') : Dl w W' t cur n q :=
  ⟨(h.block _ (lt_heap j.a)).trans j.a, (h.block _ (lt_heap j.b)).trans j.b, (h.block _ (lt_heap j.r)).trans j.r, (h.block _ (lt_heap j.s)).trans j.s, (h.block _ (lt_heap j.q)).trans j.q, below_next j.bel h⟩
theorem Dl.drew (j : Dl w W t cur n q) : Dl w W.drew t cur n q := ⟨j.a, j.b, j.r, j.s, j.q, j.bel.drew⟩
theorem Dl.alloc (j : Dl w W t cur n q) (o : Obj) : Dl w (W.alloc o) t cur n q := j.next ((Below.refl _ _).alloc (Nat.le_refl _) _)
theorem Dl.put (j : Dl w W t cur n q) (c p : Nat) : Dl w ((W.setRow w.heap.size (wn c)).setRow (w.heap.size + 1 + 1 + 1 + 1) (wn p)) t c n p :=
  ⟨(setRow_other _ _ _ _ (by omega)).trans (setRow_heap _ _ _ _ _ _ j.a), (setRow_other _ _ _ _ (by omega)).trans ((setRow_other _ _ _ _ (by omega)).trans j.b), (setRow_other _ _ _ _ (by omega)).trans ((setRow_other _ _ _ _ (by omega)).trans j.r), (setRow_other _ _ _ _ (by omega)).trans ((setRow_other _ _ _ _ (by omega)).trans j.s), setRow_heap _ _ _ _ _ _ ((setRow_other _ _ _ _ (by omega)).trans j.q), below_setRow (below_setRow j.bel (Nat.le_refl _) _) (by omega) _⟩
theorem Dl.lt (j : Dl w W t cur n q) : w.heap.size + 1 + 1 + 1 + 1 < W.heap.size := lt_heap j.q
theorem Dl.two (j : Dl w W t cur n q) (c d : Array Value) : ((W.setRow (w.heap.size + 1 + 1) c).setRow (w.heap.size + 1 + 1 + 1) d).heap[w.heap.size + 1 + 1]? = some (.cells c t (0, 0)) ∧ ((W.setRow (w.heap.size + 1 + 1) c).setRow (w.heap.size + 1 + 1 + 1) d).heap[w.heap.size + 1 + 1 + 1]? = some (.cells d t (0, 0)) ∧ Below w.heap.size w ((W.setRow (w.heap.size + 1 + 1) c).setRow (w.heap.size + 1 + 1 + 1) d) :=
  ⟨(setRow_other _ _ _ _ (by omega)).trans (setRow_heap _ _ _ _ _ _ j.r), setRow_heap _ _ _ _ _ _ ((setRow_other _ _ _ _ (by omega)).trans j.s), below_setRow (below_setRow j.bel (by omega) _) (by omega) _⟩
end
theorem wn_df (m n : Nat) (h : ¬ m < n) : wn (df m n) = wn (m - n) := by
  rw [← wn_mod (df m n), df, show m + M - n = m - n + M by omega, Nat.add_mod_right, wn_mod]
attribute [local go_sem ↓] ldW_eq svW_eq
section
set_option maxRecDepth 10000
set_option maxHeartbeats 4000000
theorem divLong_any (m n : Nat) (hm : m < M) (h0 : 0 < n) (hn : n < M) (w : World) : Calls Tryz.prog 238 #[.agg (wn m), .agg (wn n)] w fun e w' => e = .returned (.tuple #[.agg (wn (m / n)), .agg (wn (m % n))]) ∧ Below w.heap.size w w' := by
  have J0 := hide (Dl.start w 51 m n)
  have HB1 := hide fun W => bits_any m hm W
  have HB2 := hide fun W => bits_any n hn W
  have L0 := hide (Lq.start m n hm h0)
  have b1 := bl_le_of m 256 (by rw [← M_pow]; exact hm)
  have b2 := bl_le_of n 256 (by rw [← M_pow]; exact hn)
  have hw : IntKind.i64.wrap ((bl m : Int) - (bl n : Int)) = (bl m : Int) - (bl n : Int) := wrapI _ (by omega) (by omega)
  have b3 := bl_pos n h0
  have JB := hide (show -256 ≤ (bl m : Int) - (bl n : Int) ∧ (bl m : Int) - (bl n : Int) ≤ 255 by omega)
  have HM := hide (And.intro hm (And.intro h0 hn))
  clear hm h0 hn b1 b2 b3
  generalize hx : (bl m : Int) = bm at *
  generalize hy : (bl n : Int) = bn at *
  clear hx hy
  go_enter Tryz.func238, Tryz.ntmps238
  go_upto_region 2 with (first | refine wpList_boxA rfl _ rfl (wn m) rfl ?_ | refine wpList_boxA rfl _ rfl (wn n) rfl ?_ | refine wpList_allocA AW rfl rfl ?_)
  generalize ((((w.alloc (.cells (wn m) 51)).alloc (.cells (wn n) 51)).alloc (.cells (wn 0) 51)).alloc (.cells (wn 0) 51)).alloc (.cells (wn 0) 51) = W0 at *
  obtain ⟨I, hne, F, i0, hF0, hJ, hcl⟩ : ∃ (I : Type) (_ : Nonempty I) (F : I → World) (i0 : I), W0.drew = F i0 ∧ Hid (∀ i, Dl w (F i) 51 m n 0) ∧ Hid (∀ i W', Below (F i).heap.size (F i) W' → ∃ j, W' = F j) :=
    ⟨{W : World // Dl w W 51 m n 0}, ⟨⟨_, J0.out⟩⟩, Subtype.val, ⟨W0.drew, J0.out.drew⟩, rfl, fun i => i.2, fun i W' b => ⟨⟨W', i.2.next b⟩, rfl⟩⟩
  simp only [Act.put, List.setIfInBounds_toArray, List.set_cons_succ, List.set_cons_zero, hsz]
  refine wp_region_class_lit (by kernel_rfl) (by kernel_rfl) i0 hF0 ?_
  repeat (first | ((go_big_quiet_want; first | refine quiet_loadA AW _ (by rfl) _ (by rfl) (wn m) (wn_size _) 51 (fun W hC => by obtain ⟨i, rfl⟩ := hC; exact (hJ.out i).a) ?_ | refine quiet_loadA AW _ (by rfl) _ (by rfl) (wn n) (wn_size _) 51 (fun W hC => by obtain ⟨i, rfl⟩ := hC; exact (hJ.out i).b) ?_); go_big_quiet_on; simp only [Act.put, List.setIfInBounds_toArray, List.set_cons_succ, List.set_cons_zero]) | go_big_quiet_step ((go_at_call_of 292 (Value.agg (wn m)); exact class_of hcl.out (HB1.out _))) | go_big_quiet_step ((go_at_call_of 292 (Value.agg (wn n)); exact class_of hcl.out (HB2.out _))))
  refine wpQuiet_nil ?_
  rintro _ ⟨iq, rfl⟩
  have J1 := hide (hJ.out iq)
  clear hcl hF0 hJ J0 HB1 HB2
  generalize F iq = W1 at *
  generalize bm - bn = j0 at *
  go_wp2
  go_loopw [7, 8, 9, 10, 11] (fun d _ _ _ _ wr => ∃ (j : Int) (cur q : Nat), -256 ≤ j ∧ j ≤ 255 ∧ d = .int .i64 j ∧ Hid (Dl w wr 51 cur n q) ∧ Hid (Lq m n (j + 1).toNat cur q)) (fun d _ _ _ _ _ => (1 + intOf d).toNat)
  case atStart => exact ⟨j0, m, 0, JB.out.1, JB.out.2, rfl, J1, L0⟩
  case round =>
    clear J1 L0 JB
    obtain ⟨j, cur, q, hj1, hj2, rfl, J, L⟩ := hrel
    by_cases hneg : j < 0
    · have t1 : ¬ (0 : Int) ≤ j := by omega
      rw [show (j + 1).toNat = 0 by omega] at L
      have HF := hide L.out.fin
      clear L
      generalize hQ : q = Q at *
      generalize hR : cur = R at *
      clear hQ hR
      have l1 := ldW_row (W := wr.drew) J.out.a
      have l2 := ldW_row (W := wr.drew) J.out.q
      have s1 := svW_row (w := wr.drew) J.out.r Q
      have l3 := ldW_row (W := wr.drew.setRow (w.heap.size + 1 + 1) (wn Q)) (g := w.heap.size) ((setRow_other _ _ _ _ (by omega)).trans J.out.a)
      have s2 := svW_row (w := wr.drew.setRow (w.heap.size + 1 + 1) (wn Q)) ((setRow_other _ _ _ _ (by omega)).trans J.out.s) R
      go_upto_region 9 with fail
      go_region
      go_wp2
      exact bodyPost_ret (v := .tuple #[.agg (wn Q), .agg (wn R)]) (resAA AW Tryz.results238 _ _ (w.heap.size + 1 + 1) (w.heap.size + 1 + 1 + 1) 51 (wn Q) (wn R) (wn_size _) (wn_size _) rfl (J.out.drew.two _ _).1 rfl (J.out.drew.two _ _).2.1) rfl ⟨by rw [← HF.out.1, ← HF.out.2], (J.out.drew.two _ _).2.2⟩
    · obtain ⟨k, rfl⟩ := Int.eq_ofNat_of_zero_le (show 0 ≤ j by omega)
      have k0 : (0 : Int) ≤ k := by omega
      rw [show ((k : Int) + 1).toNat = k + 1 by omega] at L
      have hup := L.out.up k rfl
      have hcM : cur < M := Nat.lt_of_le_of_lt L.out.le.1 HM.out.1
      have HL := hide fun W => left_pos n k k HM.out.2.2 (by unfold sh; rw [if_neg (by omega), if_neg (by omega)]) (by omega) W
      have HS := hide fun W => wsub_any cur (n * 2 ^ k) hcM hup W
      have hkw : IntKind.i64.wrap ((k : Int) - 1) = k - 1 := wrapI _ (by omega) (by omega)
      have K1 := hide (show -256 ≤ (k : Int) - 1 ∧ (k : Int) - 1 ≤ 255 ∧ ((k : Int) - 1 + 1).toNat = k by omega)
      have KL := hide (show (1 + ((k : Int) - 1)).toNat < (1 + (k : Int)).toNat by omega)
      have LNo := hide fun h => L.out.no h
      have LYes := hide fun h => L.out.yes h
      have HW := hide fun W => withBit_any q k (by omega) L.out.bit W
      have HD := hide fun h => wn_df cur (n * 2 ^ k) h
      generalize decide (M ≤ n * 2 ^ k) = ov at *
      generalize n * 2 ^ k = P at *
      clear hneg hj1 hj2 hup hcM L
      have bb := hide J.out.b
      go_upto_region 6 with (first | refine wpList_loadA AW rfl _ rfl _ rfl (wn n) (wn_size _) 51 bb.out ?_ | (go_at_call 234; refine (HL.out _).mono ?_; rintro e w1 ⟨rfl, be⟩; have J1 := hide (J.out.next be); clear be) | refine wpList_allocA AW rfl rfl ?_ | refine wpList_store_newA AW rfl _ _ rfl _ rfl (wn P) (wn_size _) (wn_one _) rfl rfl ?_)
      have G1 := hide (heap_alloc_last w1 (.cells (wn P) 51))
      have J2 := hide (J1.out.alloc (.cells (wn P) 51))
      generalize w1.alloc (.cells (wn P) 51) = W2 at *
      generalize w1.heap.size = g at *
      clear J J1 bb HL
      have aa := hide J2.out.a
      by_cases hlt : cur < P
      · have L1 := hide (LNo.out hlt)
        rw [show decide (cur < P) = true by simp [hlt]] at HS
        clear LNo LYes HD HW hlt
        generalize df cur P = D at *
        go_wp2_with (first | refine wpList_loadA AW rfl _ rfl _ rfl (wn cur) (wn_size _) 51 aa.out ?_ | refine wpList_loadA AW rfl _ rfl _ rfl (wn P) (wn_size _) 51 G1.out ?_ | (go_at_call 235; refine (HS.out _).mono ?_; rintro e w3 ⟨rfl, be⟩; have J3 := hide (J2.out.next be); clear be) | refine wpList_allocA AW rfl rfl ?_ | refine wpList_store_newA AW rfl _ _ rfl _ rfl (wn D) (wn_size _) (wn_one _) rfl rfl ?_)
        exact ⟨⟨(k : Int) - 1, cur, q, K1.out.1, K1.out.2.1, rfl, hide (J3.out.alloc _), by rw [K1.out.2.2]; exact L1⟩, by simp [intOf]; omega⟩
      · have L1 := hide (LYes.out hlt)
        rw [show decide (cur < P) = false by simp [hlt], HD.out hlt] at HS
        clear LNo LYes HD hlt
        generalize cur - P = D at *
        generalize q + 2 ^ k = Q at *
        go_upto_region 8 with (first | refine wpList_loadA AW rfl _ rfl _ rfl (wn cur) (wn_size _) 51 aa.out ?_ | refine wpList_loadA AW rfl _ rfl _ rfl (wn P) (wn_size _) 51 G1.out ?_ | (go_at_call 235; refine (HS.out _).mono ?_; rintro e w3 ⟨rfl, be⟩; have J3 := hide (J2.out.next be); clear be) | refine wpList_allocA AW rfl rfl ?_ | refine wpList_store_newA AW rfl _ _ rfl _ rfl (wn D) (wn_size _) (wn_one _) rfl rfl ?_)
        have G3 := hide (heap_alloc_last w3 (.cells (wn D) 51))
        have J4 := hide (J3.out.alloc (.cells (wn D) 51))
        generalize w3.alloc (.cells (wn D) 51) = W4 at *
        generalize w3.heap.size = g3 at *
        clear J2 J3 G1 aa HS
        have l0 := ldW_row (W := W4.drew) G3.out
        have l1 := ldW_row (W := W4.drew) J4.out.q
        go_region_with (go_at_call 293; refine (HW.out _).mono ?_; rintro e w5 ⟨rfl, be⟩; have J5 := hide (J4.out.drew.next be); have l2 := ldW_row ((be.block _ (lt_heap G3.out)).trans G3.out); have s1 := svW_row J5.out.a D; have s2 := svW_row (w := w5.setRow w.heap.size (wn D)) ((setRow_other _ _ _ _ (by omega)).trans J5.out.q) Q; clear be)
        all_goals (go_wp2; exact ⟨⟨(k : Int) - 1, D, Q, K1.out.1, K1.out.2.1, rfl, hide (J5.out.put D Q), by rw [K1.out.2.2]; exact L1⟩, by simp [intOf]; omega⟩)
end
structure Rs (w W : World) (l : List (Nat × TypeId × Nat)) : Prop where
  row : ∀ p ∈ l, W.heap[p.1]? = some (.cells (wn p.2.2) p.2.1 (0, 0))
  bel : Below w.heap.size w W
section
variable {w W W' : World} {l : List (Nat × TypeId × Nat)} {g n : Nat} {t : TypeId}
theorem Rs.at (j : Rs w W l) (h : (g, t, n) ∈ l) : W.heap[g]? = some (.cells (wn n) t (0, 0)) := j.row _ h
theorem Rs.next (j : Rs w W l) (h : Below W.heap.size W W') : Rs w W' l := ⟨fun p hp => (h.block _ (lt_heap (j.row p hp))).trans (j.row p hp), below_next j.bel h⟩
theorem Rs.drew (j : Rs w W l) : Rs w W.drew l := ⟨j.row, j.bel.drew⟩
theorem Rs.new (j : Rs w W l) (t : TypeId) (x : Nat) : Rs w (W.alloc (.cells (wn x) t)) ((W.heap.size, t, x) :: l) := by
  have k := j.next ((Below.refl _ _).alloc (Nat.le_refl _) (.cells (wn x) t))
  refine ⟨fun p hp => ?_, k.bel⟩
  rcases List.mem_cons.1 hp with rfl | h
  · exact heap_alloc_last _ _
  · exact k.row p h
theorem Rs.two (j : Rs w W l) (t : TypeId) (x y : Nat) : Rs w ((((W.alloc (.cells (wn 0) t)).alloc (.cells (wn 0) t)).setRow W.heap.size (wn x)).setRow (W.heap.size + 1) (wn y)) ((W.heap.size, t, x) :: (W.heap.size + 1, t, y) :: l) := by
  obtain ⟨e1, e2, b⟩ := blk2w W t (wn 0) (wn x) (wn y)
  have k := j.next b
  refine ⟨fun p hp => ?_, k.bel⟩
  rcases List.mem_cons.1 hp with rfl | hp
  · exact e1
  · rcases List.mem_cons.1 hp with rfl | h
    · exact e2
    · exact k.row p h
theorem Rs.start2 (w : World) (t : TypeId) (m n : Nat) : Rs w ((w.alloc (.cells (wn m) t)).alloc (.cells (wn n) t)) [(w.heap.size + 1, t, n), (w.heap.size, t, m)] := by
  obtain ⟨e1, e2⟩ := blk2x w (.cells (wn m) t) (.cells (wn n) t)
  refine ⟨fun p hp => ?_, below2x w _ _⟩
  simp only [List.mem_cons, List.not_mem_nil, or_false] at hp
  rcases hp with rfl | rfl
  · exact e2
  · exact e1
theorem Rs.start1 (w : World) (t : TypeId) (m : Nat) : Rs w (w.alloc (.cells (wn m) t)) [(w.heap.size, t, m)] := by
  refine ⟨fun p hp => ?_, (Below.refl _ _).alloc (Nat.le_refl _) _⟩
  simp only [List.mem_cons, List.not_mem_nil, or_false] at hp
  subst hp
  exact heap_alloc_last _ _
theorem Rs.cls (j : Rs w W l) : ∃ (I : Type) (_ : Nonempty I) (F : I → World) (i0 : I), W.drew = F i0 ∧ Hid (∀ i, Rs w (F i) l) ∧ Hid (∀ i W', Below (F i).heap.size (F i) W' → ∃ j, W' = F j) :=
  ⟨{W : World // Rs w W l}, ⟨⟨_, j⟩⟩, Subtype.val, ⟨W.drew, j.drew⟩, rfl, fun i => i.2, fun i W' b => ⟨⟨W', i.2.next b⟩, rfl⟩⟩
theorem Rs.of {I : Type} {F : I → World} (hJ : Hid (∀ i, Rs w (F i) l)) (h : (g, t, n) ∈ l) (W : World) (hC : ∃ i, W = F i) : W.heap[g]? = some (.cells (wn n) t (0, 0)) := by
  obtain ⟨i, rfl⟩ := hC
  exact (hJ.out i).at h
end
theorem below_allocZ (W : World) (o : Obj) : Below W.heap.size W (W.alloc o) := (Below.refl _ _).alloc (Nat.le_refl _) _
theorem Rs.put {w W : World} {l l' : List (Nat × TypeId × Nat)} (j : Rs w W l) (g : Nat) (t : TypeId) (x : Nat) (h : ∃ y, (g, t, y) ∈ l) (hg : w.heap.size ≤ g) (hl : ∀ p ∈ l', p = (g, t, x) ∨ (p ∈ l ∧ p.1 ≠ g)) : Rs w (W.setRow g (wn x)) l' := by
  obtain ⟨y, hy⟩ := h
  refine ⟨fun p hp => ?_, below_setRow j.bel hg _⟩
  rcases hl p hp with rfl | ⟨h1, h2⟩
  · exact setRow_heap _ _ _ _ _ _ (j.at hy)
  · exact (setRow_other _ _ _ _ h2).trans (j.row p h1)
def ic (k : Nat) (f : Nat → Nat) : Array Value := ((List.range k).map fun i => Value.int .i64 ((f i : Nat) : Int)).toArray
theorem ic_size (k : Nat) (f : Nat → Nat) : (ic k f).size = k := by simp [ic]
theorem ic_at (k : Nat) (f : Nat → Nat) (i : Nat) (hi : i < k) : (ic k f)[i]? = some (.int .i64 ((f i : Nat) : Int)) := by
  simp [ic, hi]
def Ni (W : World) (g : Nat) (t : TypeId) (k : Nat) (f : Nat → Nat) : Prop := W.rowIs g t k (fun i => .int .i64 ((f i : Nat) : Int))
section
variable {W W' : World} {g : Nat} {t : TypeId} {k : Nat} {f : Nat → Nat}
theorem Ni.heap (h : Ni W g t k f) : W.heap[g]? = some (.cells (ic k f) t (0, 0)) := of_row (ic_size k f) h (fun i hi => ic_at k f i hi)
theorem Ni.of_heap (h : W.heap[g]? = some (.cells (ic k f) t (0, 0))) : Ni W g t k f := row_of (ic_size k f) h (fun i hi => ic_at k f i hi)
theorem Ni.lt (h : Ni W g t k f) : g < W.heap.size := World.rowIs.lt h
theorem Ni.of_block (h : Ni W g t k f) (e : W'.heap[g]? = W.heap[g]?) : Ni W' g t k f := World.rowIs.of_block h e
theorem Ni.fz (h : Ni W g t k f) (i : Nat) : W.frozen? ⟨g, i, none⟩ = false := World.rowIs.frozen h i
theorem Ni.cell (h : Ni W g t k f) {i : Nat} (hi : i < k) : W.cell? ⟨g, i, none⟩ = some (.int .i64 ((f i : Nat) : Int)) := World.rowIs.cell h hi
theorem Ni.set (h : Ni W g t k f) (i x : Nat) : Ni (W.setCell ⟨g, i, none⟩ (.int .i64 ((x : Nat) : Int))) g t k (fun j => if j = i then x else f j) := by
  refine (World.rowIs.set h i _).congr (fun j hj => ?_)
  by_cases e : j = i <;> simp [e]
theorem Ni.congr (h : Ni W g t k f) {f' : Nat → Nat} (e : ∀ i, i < k → f i = f' i) : Ni W g t k f' := World.rowIs.congr h (fun i hi => by rw [e i hi])
theorem Ni.other (h : Ni W g t k f) {b : Nat} (hb : b ≠ g) (i : Nat) (v : Value) : Ni (W.setCell ⟨b, i, none⟩ v) g t k f := h.of_block (Below.heap_setCell _ _ _ _ (Ne.symm hb))
theorem Ni.row (h : Ni W g t k f) {b : Nat} (hb : b ≠ g) (c : Array Value) : Ni (W.setRow b c) g t k f := h.of_block (setRow_other W b g c (Ne.symm hb))
theorem Ni.below (h : Ni W g t k f) (b : Below W.heap.size W W') : Ni W' g t k f := h.of_block (b.block _ h.lt)
theorem Ni.drew (h : Ni W g t k f) : Ni W.drew g t k f := h
end
def bn (n : Nat) : Array Value := ic 40 (dg 256 n)
def MB : Nat := 256 ^ 40
set_option maxRecDepth 20000 in
section
set_option maxRecDepth 10000
set_option maxHeartbeats 2000000
end
end Go.Proofs.YtcoojkpimbddlaaGreatDoor
