/- The contracts of wide.Left and Right. The contracts of wide.divLong and wide.Div. Rows of numbers in a world, and classes of worlds that have them. Numbers of 40 bytes: their cells; the contracts of the document's Less and Zero. The contract of wide.Div, in full. The contracts of wide.mulAdd and wide.Mul. The contracts of wide.Not and wide.Root. -/
import Derived.Test.YtofddbjnncgmlabGreatDoorX15
import Derived.Test.YtofddbjnncgmlabGreatDoorX14
namespace Go.Proofs.YtofddbjnncgmlabGreatDoor
open Go.RowKit
open Go.Deep
theorem lost_iff (m k : Nat) (hk : k ≤ 256) : (m * 2 ^ k % M / 2 ^ k = m) ↔ ¬ M ≤ m * 2 ^ k := by
  have hp := Nat.two_pow_pos k
  have e : M = 2 ^ (256 - k) * 2 ^ k := by rw [M_pow, ← Nat.pow_add, show 256 - k + k = 256 by omega]
  constructor
  · intro h h'
    have h1 := Nat.mod_lt (m * 2 ^ k) M_pos
    have h2 : m * 2 ^ k % M / 2 ^ k < 2 ^ (256 - k) := by
      rw [Nat.div_lt_iff_lt_mul hp, ← e]
      exact h1
    rw [h] at h2
    have h3 := Nat.mul_lt_mul_of_pos_right h2 hp
    rw [← e] at h3
    omega
  · intro h
    rw [Nat.mod_eq_of_lt (by omega), Nat.mul_div_cancel _ hp]
attribute [local go_sem ↓] ldW_eq svW_eq
section
set_option maxRecDepth 10000
set_option maxHeartbeats 2000000
theorem left_neg (m : Nat) (n : Int) (k : Nat) (hm : m < M) (h : n < 0) (hk : -(sh n) = k) (hk2 : k ≤ 256) (w : World) : Calls Tryz.prog 178 #[.agg (wn m), .int .i64 n] w fun e w' => e = .returned (.tuple #[.agg (wn (m / 2 ^ k)), .bool false]) ∧ Below w.heap.size w w' := by
  have J0 := hide (Bd.start w 232 m)
  have HS := hide fun W => short_any n W
  have HD := hide fun W => down_any m k hm hk2 W
  have hs : sh n < 0 := by unfold sh; split <;> omega
  have hw : IntKind.i64.wrap (-(sh n)) = k := by rw [hk]; exact wrapI _ (by omega) (by omega)
  clear hk h hm hk2
  generalize sh n = s at *
  generalize m / 2 ^ k = D at *
  go_enter Tryz.func178, Tryz.ntmps178
  go_upto_region 1 with (first | refine wpList_boxA rfl _ rfl (wn m) rfl ?_ | refine wpList_allocA AW rfl rfl ?_)
  generalize (w.alloc (.cells (wn m) 232)).alloc (.cells (wn 0) 232) = W0 at *
  have a0 := hide J0.out.a.heap
  go_wp2_with (first | (go_at_call 185; refine (HS.out _).mono ?_; rintro e w3 ⟨rfl, hw3⟩; subst w3) | refine wpList_loadA AW rfl _ rfl _ rfl (wn m) (wn_size _) 232 a0.out ?_ | (go_at_call 186; refine (HD.out _).mono ?_; rintro e w4 ⟨rfl, b4⟩; have J4 := hide (J0.out.next b4); have r4 := hide J4.out.r; clear b4) | refine wpList_storeA AW rfl _ _ rfl _ (wn D) (wn_size _) (wn_one _) rfl rfl (wn 0) (wn_size 0) 232 r4.out ?_)
  exact bodyPost_ret (v := .tuple #[.agg (wn D), .bool false]) (resA2 AW Tryz.results178 _ _ (w.heap.size + 1) 232 (wn D) (wn_size _) rfl (setRow_heap _ _ _ _ _ _ J4.out.r) _ (by rfl)) rfl ⟨rfl, below_setRow J4.out.bel (by omega) _⟩
theorem left_pos (m : Nat) (n : Int) (k : Nat) (hm : m < M) (hk : sh n = k) (hk2 : k ≤ 256) (w : World) : Calls Tryz.prog 178 #[.agg (wn m), .int .i64 n] w fun e w' => e = .returned (.tuple #[.agg (wn (m * 2 ^ k)), .bool (decide (M ≤ m * 2 ^ k))]) ∧ Below w.heap.size w w' := by
  have J0 := hide (Bd.start w 232 m)
  have HS := hide fun W => short_any n W
  rw [hk] at HS
  have HU := hide fun W => up_any m k hk2 W
  have HD := hide fun W => down_any (m * 2 ^ k % M) k (Nat.mod_lt _ M_pos) hk2 W
  have HE := fun W => eqW (m * 2 ^ k % M / 2 ^ k) m (Nat.lt_of_le_of_lt (Nat.div_le_self _ _) (Nat.mod_lt _ M_pos)) hm W
  have hd : decide (M ≤ m * 2 ^ k) = !decide (m * 2 ^ k % M / 2 ^ k = m) := by
    have := lost_iff m k hk2
    by_cases h1 : M ≤ m * 2 ^ k
    · simp [h1, this]
    · simp [h1, this]
  have hs : ¬ (k : Int) < 0 := by omega
  rw [hd]
  rw [wn_mod] at HD
  clear hk hk2 hm hd
  generalize decide (m * 2 ^ k % M / 2 ^ k = m) = v at *
  generalize m * 2 ^ k % M / 2 ^ k = D at *
  generalize m * 2 ^ k = U at *
  have eg : ∀ x y W, _ := fun x y W => run_eqGuard_agg (P := Tryz.prog) W .neq 232 x y (wn D) (wn m) eqgW
  go_enter Tryz.func178, Tryz.ntmps178
  go_upto_region 1 with (first | refine wpList_boxA rfl _ rfl (wn m) rfl ?_ | refine wpList_allocA AW rfl rfl ?_)
  generalize (w.alloc (.cells (wn m) 232)).alloc (.cells (wn 0) 232) = W0 at *
  have a0 := hide J0.out.a.heap
  go_upto_region 5 with (first | (go_at_call 185; refine (HS.out _).mono ?_; rintro e w3 ⟨rfl, hw3⟩; subst w3) | refine wpList_loadA AW rfl _ rfl _ rfl (wn m) (wn_size _) 232 a0.out ?_ | (go_at_call 187; refine (HU.out _).mono ?_; rintro e w4 ⟨rfl, b4⟩; have J4 := hide (J0.out.next b4); clear b4) | refine wpList_allocA AW rfl rfl ?_ | refine wpList_store_newA AW rfl _ _ rfl _ rfl (wn U) (wn_size _) (wn_one _) rfl rfl ?_)
  have J5 := hide (J4.out.next ((Below.refl _ _).alloc (Nat.le_refl _) (.cells (wn U) 232)))
  have H6 := hide (heap_alloc_last w4 (.cells (wn U) 232))
  generalize w4.alloc (.cells (wn U) 232) = W5 at *
  generalize w4.heap.size = g at *
  clear J4 J0 a0 HS HU
  have l0 : (ldW (.pointer (some ⟨g, 0, none⟩))).run Tryz.prog W5.drew = .ok (.agg (wn U)) W5.drew := ldW_row (W := W5.drew) H6.out
  have l1 : (ldW (.pointer (some ⟨w.heap.size, 0, none⟩))).run Tryz.prog W5.drew = .ok (.agg (wn m)) W5.drew := ldW_row (W := W5.drew) J5.out.a.heap
  have B5 := hide ((Below.refl W5.heap.size W5).drew)
  go_region_with (go_at_call 186; refine (HD.out _).mono ?_; rintro e w6 ⟨rfl, be⟩; have J6 := hide (J5.out.next (B5.out.trans be)); have l2 := ldW_row ((be.block _ (lt_heap H6.out)).trans H6.out); have l3 := ldW_row (W := w6) J6.out.a.heap; have s1 := svW_row J6.out.r U; have l4 := ldW_row (W := w6.setRow (w.heap.size + 1) (wn U)) ((setRow_other _ _ _ _ (by omega)).trans J6.out.a.heap); clear be)
  all_goals (go_wp2; exact bodyPost_ret (v := .tuple #[.agg (wn U), .bool !v]) (resA2 AW Tryz.results178 _ _ (w.heap.size + 1) 232 (wn U) (wn_size _) rfl (setRow_heap _ _ _ _ _ _ J6.out.r) _ (by rfl)) rfl ⟨rfl, below_setRow J6.out.bel (by omega) _⟩)
end
end Go.Proofs.YtofddbjnncgmlabGreatDoor
namespace Go.Proofs.YtofddbjnncgmlabGreatDoor
open Go.RowKit
open Go.Deep
theorem hsz (w : World) (o : Obj) : (w.alloc o).heap.size = w.heap.size + 1 := by simp
/-- What is known in the loop of a long division, J bits behind. -/
structure Lq (m n J cur q : Nat) : Prop where
  eq : m = q * n + cur
  lt : cur < n * 2 ^ J
  dv : q % 2 ^ J = 0
  up : ∀ k, J = k + 1 → n * 2 ^ k < M
theorem Lq.start (m n : Nat) (hm : m < M) (h0 : 0 < n) : Lq m n ((bl m : Int) - (bl n : Int) + 1).toNat m 0 := by
  have a1 := bl_lt m
  have a2 := bl_le n h0
  have a3 := bl_lt n
  have a4 := bl_pos n h0
  refine ⟨by simp, ?_, Nat.zero_mod _, fun k hk => ?_⟩
  · rcases Nat.lt_or_ge (bl m) (bl n) with h | h
    · rw [show ((bl m : Int) - (bl n : Int) + 1).toNat = 0 by omega, Nat.pow_zero, Nat.mul_one]
      have : 2 ^ bl m ≤ 2 ^ (bl n - 1) := Nat.pow_le_pow_right (by decide) (by omega)
      omega
    · rw [show ((bl m : Int) - (bl n : Int) + 1).toNat = bl m - bl n + 1 by omega]
      have e : 2 ^ bl m = 2 ^ (bl n - 1) * 2 ^ (bl m - bl n + 1) := by rw [← Nat.pow_add]; congr 1; omega
      have := Nat.mul_le_mul_right (2 ^ (bl m - bl n + 1)) a2
      omega
  · have e : 2 ^ bl m = 2 ^ bl n * 2 ^ k := by rw [← Nat.pow_add]; congr 1; omega
    have h1 := bl_le_of m 256 (by rw [← M_pow]; exact hm)
    have h2 : 2 ^ bl m ≤ 2 ^ 256 := Nat.pow_le_pow_right (by decide) h1
    have h3 := Nat.mul_lt_mul_of_pos_right a3 (Nat.two_pow_pos k)
    rw [M_pow]
    omega
theorem Lq.no {m n k cur q : Nat} (j : Lq m n (k + 1) cur q) (h : cur < n * 2 ^ k) : Lq m n k cur q := by
  refine ⟨j.eq, h, ?_, fun i hi => ?_⟩
  · have := j.dv
    rw [Nat.pow_succ] at this
    exact Nat.mod_eq_zero_of_dvd (Nat.dvd_trans (Nat.dvd_mul_right _ _) (Nat.dvd_of_mod_eq_zero this))
  · have h1 := j.up k rfl
    have : n * 2 ^ i ≤ n * 2 ^ k := Nat.mul_le_mul_left _ (Nat.pow_le_pow_right (by decide) (by omega))
    omega
theorem Lq.yes {m n k cur q : Nat} (j : Lq m n (k + 1) cur q) (h : ¬ cur < n * 2 ^ k) : Lq m n k (cur - n * 2 ^ k) (q + 2 ^ k) := by
  have e1 := j.eq
  have e2 := j.lt
  rw [Nat.pow_succ, ← Nat.mul_assoc] at e2
  refine ⟨?_, by omega, ?_, fun i hi => ?_⟩
  · rw [Nat.add_mul, Nat.mul_comm (2 ^ k) n]
    omega
  · have := j.dv
    rw [Nat.pow_succ] at this
    have h2 := Nat.dvd_trans (Nat.dvd_mul_right (2 ^ k) 2) (Nat.dvd_of_mod_eq_zero this)
    exact Nat.mod_eq_zero_of_dvd (Nat.dvd_add h2 (Nat.dvd_refl _))
  · have h1 := j.up k rfl
    have : n * 2 ^ i ≤ n * 2 ^ k := Nat.mul_le_mul_left _ (Nat.pow_le_pow_right (by decide) (by omega))
    omega
theorem Lq.bit {m n k cur q : Nat} (j : Lq m n (k + 1) cur q) : q.testBit k = false := by
  have := j.dv
  obtain ⟨c, hc⟩ := Nat.dvd_of_mod_eq_zero this
  rw [hc, Nat.testBit, Nat.shiftRight_eq_div_pow, Nat.pow_succ, Nat.mul_assoc, Nat.mul_div_cancel_left _ (Nat.two_pow_pos k)]
  simp [Nat.and_comm 1]
theorem Lq.fin {m n cur q : Nat} (j : Lq m n 0 cur q) : q = m / n ∧ cur = m % n := by
  have e := j.eq
  have l := j.lt
  rw [Nat.pow_zero, Nat.mul_one] at l
  subst e
  have h0 : 0 < n := by omega
  rw [Nat.mul_comm q n, Nat.mul_add_div h0, Nat.div_eq_of_lt l, Nat.mul_add_mod, Nat.mod_eq_of_lt l]
  simp
theorem Lq.le {m n J cur q : Nat} (j : Lq m n J cur q) : cur ≤ m ∧ (0 < n → q ≤ m) := by
  have e := j.eq
  refine ⟨by omega, fun h => ?_⟩
  have := Nat.le_mul_of_pos_right q h
  omega
/-- Five rows of a long division. -/
structure Dl (w W : World) (t : TypeId) (cur n q : Nat) : Prop where
  a : W.heap[w.heap.size]? = some (.cells (wn cur) t (0, 0))
  b : W.heap[w.heap.size + 1]? = some (.cells (wn n) t (0, 0))
  r : W.heap[w.heap.size + 1 + 1]? = some (.cells (wn 0) t (0, 0))
  s : W.heap[w.heap.size + 1 + 1 + 1]? = some (.cells (wn 0) t (0, 0))
  q : W.heap[w.heap.size + 1 + 1 + 1 + 1]? = some (.cells (wn q) t (0, 0))
  bel : Below w.heap.size w W
section
variable {w W W' : World} {t : TypeId} {cur n q : Nat}
theorem Dl.start (w : World) (t : TypeId) (m n : Nat) : Dl w (((((w.alloc (.cells (wn m) t)).alloc (.cells (wn n) t)).alloc (.cells (wn 0) t)).alloc (.cells (wn 0) t)).alloc (.cells (wn 0) t)) t m n 0 := by
  obtain ⟨e1, e2, e3, e4⟩ := blk4 w (.cells (wn m) t) (.cells (wn n) t) (.cells (wn 0) t) (.cells (wn 0) t)
  have b4 := below4 w (.cells (wn m) t) (.cells (wn n) t) (.cells (wn 0) t) (.cells (wn 0) t)
  have hs : ((((w.alloc (.cells (wn m) t)).alloc (.cells (wn n) t)).alloc (.cells (wn 0) t)).alloc (.cells (wn 0) t)).heap.size = w.heap.size + 1 + 1 + 1 + 1 := by simp
  have e5 := heap_alloc_last ((((w.alloc (.cells (wn m) t)).alloc (.cells (wn n) t)).alloc (.cells (wn 0) t)).alloc (.cells (wn 0) t)) (.cells (wn 0) t)
  rw [hs] at e5
  exact ⟨(Below.heap_alloc _ _ _ (lt_heap e1)).trans e1, (Below.heap_alloc _ _ _ (lt_heap e2)).trans e2, (Below.heap_alloc _ _ _ (lt_heap e3)).trans e3, (Below.heap_alloc _ _ _ (lt_heap e4)).trans e4, e5, b4.alloc (by simp; omega) _⟩
theorem Dl.next (j : Dl w W t cur n q) (h : Below W.heap.size W W') : Dl w W' t cur n q :=
  ⟨(h.block _ (lt_heap j.a)).trans j.a, (h.block _ (lt_heap j.b)).trans j.b, (h.block _ (lt_heap j.r)).trans j.r, (h.block _ (lt_heap j.s)).trans j.s, (h.block _ (lt_heap j.q)).trans j.q, below_next j.bel h⟩
theorem Dl.drew (j : Dl w W t cur n q) : Dl w W.drew t cur n q := ⟨j.a, j.b, j.r, j.s, j.q, j.bel.drew⟩
theorem Dl.alloc (j : Dl w W t cur n q) (o : Obj) : Dl w (W.alloc o) t cur n q := j.next ((Below.refl _ _).alloc (Nat.le_refl _) _)
theorem Dl.put (j : Dl w W t cur n q) (c p : Nat) : Dl w ((W.setRow w.heap.size (wn c)).setRow (w.heap.size + 1 + 1 + 1 + 1) (wn p)) t c n p :=
  ⟨(setRow_other _ _ _ _ (by omega)).trans (setRow_heap _ _ _ _ _ _ j.a), (setRow_other _ _ _ _ (by omega)).trans ((setRow_other _ _ _ _ (by omega)).trans j.b), (setRow_other _ _ _ _ (by omega)).trans ((setRow_other _ _ _ _ (by omega)).trans j.r), (setRow_other _ _ _ _ (by omega)).trans ((setRow_other _ _ _ _ (by omega)).trans j.s), setRow_heap _ _ _ _ _ _ ((setRow_other _ _ _ _ (by omega)).trans j.q), below_setRow (below_setRow j.bel (Nat.le_refl _) _) (by omega) _⟩
theorem Dl.lt (j : Dl w W t cur n q) : w.heap.size + 1 + 1 + 1 + 1 < W.heap.size := lt_heap j.q
theorem Dl.two (j : Dl w W t cur n q) (c d : Array Value) : ((W.setRow (w.heap.size + 1 + 1) c).setRow (w.heap.size + 1 + 1 + 1) d).heap[w.heap.size + 1 + 1]? = some (.cells c t (0, 0)) ∧ ((W.setRow (w.heap.size + 1 + 1) c).setRow (w.heap.size + 1 + 1 + 1) d).heap[w.heap.size + 1 + 1 + 1]? = some (.cells d t (0, 0)) ∧ Below w.heap.size w ((W.setRow (w.heap.size + 1 + 1) c).setRow (w.heap.size + 1 + 1 + 1) d) :=
  ⟨(setRow_other _ _ _ _ (by omega)).trans (setRow_heap _ _ _ _ _ _ j.r), setRow_heap _ _ _ _ _ _ ((setRow_other _ _ _ _ (by omega)).trans j.s), below_setRow (below_setRow j.bel (by omega) _) (by omega) _⟩
end
theorem wn_df (m n : Nat) (h : ¬ m < n) : wn (df m n) = wn (m - n) := by
  rw [← wn_mod (df m n), df, show m + M - n = m - n + M by omega, Nat.add_mod_right, wn_mod]
attribute [local go_sem ↓] ldW_eq svW_eq
section
set_option maxRecDepth 10000
set_option maxHeartbeats 4000000
end
end Go.Proofs.YtofddbjnncgmlabGreatDoor
namespace Go.Proofs.YtofddbjnncgmlabGreatDoor
open Go.RowKit
open Go.Deep
/-- Rows of numbers: place, type, number. -/
structure Rs (w W : World) (l : List (Nat × TypeId × Nat)) : Prop where
  row : ∀ p ∈ l, W.heap[p.1]? = some (.cells (wn p.2.2) p.2.1 (0, 0))
  bel : Below w.heap.size w W
section
variable {w W W' : World} {l : List (Nat × TypeId × Nat)} {g n : Nat} {t : TypeId}
theorem Rs.at (j : Rs w W l) (h : (g, t, n) ∈ l) : W.heap[g]? = some (.cells (wn n) t (0, 0)) := j.row _ h
theorem Rs.next (j : Rs w W l) (h : Below W.heap.size W W') : Rs w W' l := ⟨fun p hp => (h.block _ (lt_heap (j.row p hp))).trans (j.row p hp), below_next j.bel h⟩
theorem Rs.drew (j : Rs w W l) : Rs w W.drew l := ⟨j.row, j.bel.drew⟩
theorem Rs.new (j : Rs w W l) (t : TypeId) (x : Nat) : Rs w (W.alloc (.cells (wn x) t)) ((W.heap.size, t, x) :: l) := by
  have k := j.next ((Below.refl _ _).alloc (Nat.le_refl _) (.cells (wn x) t))
  refine ⟨fun p hp => ?_, k.bel⟩
  rcases List.mem_cons.1 hp with rfl | h
  · exact heap_alloc_last _ _
  · exact k.row p h
theorem Rs.two (j : Rs w W l) (t : TypeId) (x y : Nat) : Rs w ((((W.alloc (.cells (wn 0) t)).alloc (.cells (wn 0) t)).setRow W.heap.size (wn x)).setRow (W.heap.size + 1) (wn y)) ((W.heap.size, t, x) :: (W.heap.size + 1, t, y) :: l) := by
  obtain ⟨e1, e2, b⟩ := blk2w W t (wn 0) (wn x) (wn y)
  have k := j.next b
  refine ⟨fun p hp => ?_, k.bel⟩
  rcases List.mem_cons.1 hp with rfl | hp
  · exact e1
  · rcases List.mem_cons.1 hp with rfl | h
    · exact e2
    · exact k.row p h
theorem Rs.start2 (w : World) (t : TypeId) (m n : Nat) : Rs w ((w.alloc (.cells (wn m) t)).alloc (.cells (wn n) t)) [(w.heap.size + 1, t, n), (w.heap.size, t, m)] := by
  obtain ⟨e1, e2⟩ := blk2x w (.cells (wn m) t) (.cells (wn n) t)
  refine ⟨fun p hp => ?_, below2x w _ _⟩
  simp only [List.mem_cons, List.not_mem_nil, or_false] at hp
  rcases hp with rfl | rfl
  · exact e2
  · exact e1
theorem Rs.start1 (w : World) (t : TypeId) (m : Nat) : Rs w (w.alloc (.cells (wn m) t)) [(w.heap.size, t, m)] := by
  refine ⟨fun p hp => ?_, (Below.refl _ _).alloc (Nat.le_refl _) _⟩
  simp only [List.mem_cons, List.not_mem_nil, or_false] at hp
  subst hp
  exact heap_alloc_last _ _
/-- Worlds in which these rows lie, as a class. -/
theorem Rs.cls (j : Rs w W l) : ∃ (I : Type) (_ : Nonempty I) (F : I → World) (i0 : I), W.drew = F i0 ∧ Hid (∀ i, Rs w (F i) l) ∧ Hid (∀ i W', Below (F i).heap.size (F i) W' → ∃ j, W' = F j) :=
  ⟨{W : World // Rs w W l}, ⟨⟨_, j⟩⟩, Subtype.val, ⟨W.drew, j.drew⟩, rfl, fun i => i.2, fun i W' b => ⟨⟨W', i.2.next b⟩, rfl⟩⟩
theorem Rs.of {I : Type} {F : I → World} (hJ : Hid (∀ i, Rs w (F i) l)) (h : (g, t, n) ∈ l) (W : World) (hC : ∃ i, W = F i) : W.heap[g]? = some (.cells (wn n) t (0, 0)) := by
  obtain ⟨i, rfl⟩ := hC
  exact (hJ.out i).at h
end
theorem below_allocZ (W : World) (o : Obj) : Below W.heap.size W (W.alloc o) := (Below.refl _ _).alloc (Nat.le_refl _) _
theorem Rs.put {w W : World} {l l' : List (Nat × TypeId × Nat)} (j : Rs w W l) (g : Nat) (t : TypeId) (x : Nat) (h : ∃ y, (g, t, y) ∈ l) (hg : w.heap.size ≤ g) (hl : ∀ p ∈ l', p = (g, t, x) ∨ (p ∈ l ∧ p.1 ≠ g)) : Rs w (W.setRow g (wn x)) l' := by
  obtain ⟨y, hy⟩ := h
  refine ⟨fun p hp => ?_, below_setRow j.bel hg _⟩
  rcases hl p hp with rfl | ⟨h1, h2⟩
  · exact setRow_heap _ _ _ _ _ _ (j.at hy)
  · exact (setRow_other _ _ _ _ h2).trans (j.row p h1)
end Go.Proofs.YtofddbjnncgmlabGreatDoor
namespace Go.Proofs.YtofddbjnncgmlabGreatDoor
open Go.RowKit
open Go.Deep
/-- Ints as cells. -/
def ic (k : Nat) (f : Nat → Nat) : Array Value := ((List.range k).map fun i => Value.int .i64 ((f i : Nat) : Int)).toArray
theorem ic_size (k : Nat) (f : Nat → Nat) : (ic k f).size = k := by simp [ic]
theorem ic_one (k : Nat) (f : Nat → Nat) : (ic k f).all (·.oneCell') = true := by
  rw [Array.all_eq_true_iff_forall_mem]
  intro v hv
  simp only [ic, List.mem_toArray, List.mem_map] at hv
  obtain ⟨b, _, rfl⟩ := hv
  rfl
theorem ic_at (k : Nat) (f : Nat → Nat) (i : Nat) (hi : i < k) : (ic k f)[i]? = some (.int .i64 ((f i : Nat) : Int)) := by
  simp [ic, hi]
theorem ic_congr {k : Nat} {f g : Nat → Nat} (h : ∀ i, i < k → f i = g i) : ic k f = ic k g := by
  unfold ic
  congr 1
  apply List.map_congr_left
  intro i hi
  rw [h i (by simpa using hi)]
/-- Ints at block g. -/
def Ni (W : World) (g : Nat) (t : TypeId) (k : Nat) (f : Nat → Nat) : Prop := W.rowIs g t k (fun i => .int .i64 ((f i : Nat) : Int))
section
variable {W W' : World} {g : Nat} {t : TypeId} {k : Nat} {f : Nat → Nat}
theorem Ni.heap (h : Ni W g t k f) : W.heap[g]? = some (.cells (ic k f) t (0, 0)) := of_row (ic_size k f) h (fun i hi => ic_at k f i hi)
theorem Ni.of_heap (h : W.heap[g]? = some (.cells (ic k f) t (0, 0))) : Ni W g t k f := row_of (ic_size k f) h (fun i hi => ic_at k f i hi)
theorem Ni.lt (h : Ni W g t k f) : g < W.heap.size := World.rowIs.lt h
theorem Ni.of_block (h : Ni W g t k f) (e : W'.heap[g]? = W.heap[g]?) : Ni W' g t k f := World.rowIs.of_block h e
theorem Ni.fz (h : Ni W g t k f) (i : Nat) : W.frozen? ⟨g, i, none⟩ = false := World.rowIs.frozen h i
theorem Ni.cell (h : Ni W g t k f) {i : Nat} (hi : i < k) : W.cell? ⟨g, i, none⟩ = some (.int .i64 ((f i : Nat) : Int)) := World.rowIs.cell h hi
theorem Ni.set (h : Ni W g t k f) (i x : Nat) : Ni (W.setCell ⟨g, i, none⟩ (.int .i64 ((x : Nat) : Int))) g t k (fun j => if j = i then x else f j) := by
  refine (World.rowIs.set h i _).congr (fun j hj => ?_)
  by_cases e : j = i <;> simp [e]
theorem Ni.congr (h : Ni W g t k f) {f' : Nat → Nat} (e : ∀ i, i < k → f i = f' i) : Ni W g t k f' := World.rowIs.congr h (fun i hi => by rw [e i hi])
theorem Ni.other (h : Ni W g t k f) {b : Nat} (hb : b ≠ g) (i : Nat) (v : Value) : Ni (W.setCell ⟨b, i, none⟩ v) g t k f := h.of_block (Below.heap_setCell _ _ _ _ (Ne.symm hb))
theorem Ni.row (h : Ni W g t k f) {b : Nat} (hb : b ≠ g) (c : Array Value) : Ni (W.setRow b c) g t k f := h.of_block (setRow_other W b g c (Ne.symm hb))
theorem Ni.below (h : Ni W g t k f) (b : Below W.heap.size W W') : Ni W' g t k f := h.of_block (b.block _ h.lt)
theorem Ni.drew (h : Ni W g t k f) : Ni W.drew g t k f := h
end
/-- The cells of a number of 40 bytes. -/
def bn (n : Nat) : Array Value := ic 40 (dg 256 n)
theorem bn_size (n : Nat) : (bn n).size = 40 := ic_size 40 _
theorem bn_one (n : Nat) : (bn n).all (·.oneCell') = true := ic_one 40 _
def MB : Nat := 256 ^ 40
theorem MB_pos : 0 < MB := by decide +kernel
theorem M_MB : M < MB := by decide +kernel
theorem bn_mod (n : Nat) : bn (n % MB) = bn n := ic_congr fun i hi => dg_mod 256 n 40 i hi
theorem size3 (w : World) : (sizeOf 3).run Tryz.prog w = .ok 1 w := by kernel_rfl
set_option maxRecDepth 20000 in
theorem eq_ic (t : TypeId) (k : Nat) (ht : Tryz.prog.underlying t = some (.array k 3)) (f g : Nat → Nat) (w : World) : (Op.equalIn 10000 t (.agg (ic k f)) (.agg (ic k g))).run Tryz.prog w = .ok ((List.range k).all fun i => f i == g i) w := by
  rw [List.range_eq_range', Op.equalIn]
  simp only [Sem.run_bind, run_underlying ht, Result.andThen_ok, size3, Std.Legacy.Range.forIn_eq_forIn_range', Std.Legacy.Range.size, Nat.sub_zero, Nat.add_sub_cancel, Nat.div_one]
  have hr : ∀ i ∈ List.range' 0 k 1, i < k := fun i hi => by simpa using (List.mem_range'_1.1 hi).2
  generalize List.range' 0 k 1 = r at hr ⊢
  induction r with
  | nil => simp
  | cons i r ih =>
    have hi : i < k := hr i (by simp)
    have hp : ∀ h : Nat → Nat, (Go.part 3 (ic k h) (i * 1)).run Tryz.prog w = .ok (.int .i64 ((h i : Nat) : Int)) w := fun h => by
      simp [Go.part, isAgg, run_underlying Tryz.underlying3, ic_at k h i hi]
    have he : (Op.equalIn 9999 3 (.int .i64 ((f i : Nat) : Int)) (.int .i64 ((g i : Nat) : Int))).run Tryz.prog w = .ok (f i == g i) w := by
      rw [run_equalIn_int w 9998 3 .i64 .i64 _ _ Tryz.underlying3]
      congr 1
      rw [Bool.eq_iff_iff]
      simp
      omega
    simp only [List.forIn_cons, Sem.run_bind, hp, he, Result.andThen_ok, List.all_cons]
    cases hb : (f i == g i)
    · simp
    · simp only [Bool.not_true, Bool.false_eq_true, if_false, Sem.run_pure, Result.andThen_ok, Bool.true_and]
      exact ih fun j hj => hr j (by simp [hj])
/-- Numbers held against each other, byte by byte. -/
theorem div_byte_step (B m i : Nat) : m / B ^ i = B * (m / B ^ (i + 1)) + dg B m i := by
  unfold dg
  rw [Nat.pow_succ, ← Nat.div_div_eq_div_mul]
  exact (Nat.div_add_mod _ _).symm
theorem byte_eq {B m n i : Nat} (h : m / B ^ (i + 1) = n / B ^ (i + 1)) (e : dg B m i = dg B n i) : m / B ^ i = n / B ^ i := by
  rw [div_byte_step, div_byte_step B n, h, e]
theorem byte_lt {B m n i : Nat} (h : m / B ^ (i + 1) = n / B ^ (i + 1)) (e : dg B m i < dg B n i) : m < n := by
  have h1 := div_byte_step B m i
  have h2 := div_byte_step B n i
  rw [h] at h1
  rcases Nat.lt_or_ge m n with h' | h'
  · exact h'
  · have := Nat.div_le_div_right (c := B ^ i) h'
    omega
section
set_option maxRecDepth 10000
set_option maxHeartbeats 2000000
end
end Go.Proofs.YtofddbjnncgmlabGreatDoor
namespace Go.Proofs.YtofddbjnncgmlabGreatDoor
open Go.RowKit
open Go.Deep
attribute [local go_sem ↓] ldW_eq svW_eq
section
set_option maxRecDepth 10000
set_option maxHeartbeats 2000000
end
end Go.Proofs.YtofddbjnncgmlabGreatDoor
namespace Go.Proofs.YtofddbjnncgmlabGreatDoor
open Go.RowKit
open Go.Deep
/-- A word out of a number that is a value. -/
theorem run_indexW (m i : Nat) (h : i < 4) (w : World) : (Instr.index 232 (.agg (wn m)) (.int .i64 (i : Int))).run Tryz.prog w = .ok (.int .u64 ((wd m i : Nat) : Int)) w := by
  have hp : (Go.part 66 (wn m) (i * 1)).run Tryz.prog w = .ok (.int .u64 ((wd m i : Nat) : Int)) w := by
    simp [Go.part, isAgg, run_underlying Tryz.underlying66, wn, nc_at 4 (wd m) i h]
  rw [Nat.mul_one] at hp
  simp [Instr.index, asIntOf, run_underlying Tryz.underlying232, h, hp]
theorem wpList_indexW {w : World} {ops : Array Oper} {rest : List Oper} {o : Oper} {a : Act} {Q : Exit → Act → World → Prop} (hgd : o.guard = none) (x y : Operand) (ho : o.op = .index 232 x y) (m i : Nat) (hx : a.eval x = .agg (wn m)) (hy : a.eval y = .int .i64 (i : Int)) (hi : i < 4)
    (h : wpList Tryz.prog ops Q rest (a.put o.dst (.int .u64 ((wd m i : Nat) : Int))) w) : wpList Tryz.prog ops Q (o :: rest) a w := by
  refine wpList_plain hgd fun K hK => ?_
  unfold Oper.wp execOp
  simp only [ho, hx, hy, run_indexW m i hi w, Sem.run_bind, Result.andThen_ok, Sem.run_pure]
  exact hK _ _ h
theorem mulAdd_arith (x y f s : Nat) (hx : x < 18446744073709551616) (hy : y < 18446744073709551616) (hf : f < 18446744073709551616) (hs : s < 18446744073709551616) : x * y / 18446744073709551616 + (x * y % 18446744073709551616 + f) / 18446744073709551616 + ((x * y % 18446744073709551616 + f) % 18446744073709551616 + s) / 18446744073709551616 = (x * y + f + s) / 18446744073709551616 ∧ ((x * y % 18446744073709551616 + f) % 18446744073709551616 + s) % 18446744073709551616 = (x * y + f + s) % 18446744073709551616 ∧ (x * y + f + s) / 18446744073709551616 < 18446744073709551616 := by
  have h := Nat.mul_le_mul (show x ≤ 18446744073709551615 by omega) (show y ≤ 18446744073709551615 by omega)
  generalize x * y = P at *
  refine ⟨by omega, by omega, by omega⟩
section
set_option maxRecDepth 10000
set_option maxHeartbeats 2000000
end
end Go.Proofs.YtofddbjnncgmlabGreatDoor
namespace Go.Proofs.YtofddbjnncgmlabGreatDoor
open Go.RowKit
open Go.Deep
/-- The root of a number, cut down. -/
def rt : Nat → Nat
  | 0 => 0
  | m + 1 => if (rt m + 1) * (rt m + 1) ≤ m + 1 then rt m + 1 else rt m
theorem rt_both (m : Nat) : rt m * rt m ≤ m ∧ m < (rt m + 1) * (rt m + 1) := by
  induction m with
  | zero => exact ⟨by simp [rt], by simp [rt]⟩
  | succ m ih =>
    obtain ⟨h1, h2⟩ := ih
    rw [rt]
    split
    · rename_i h
      refine ⟨h, ?_⟩
      have : (rt m + 1) * (rt m + 1) < (rt m + 1 + 1) * (rt m + 1 + 1) := Nat.mul_lt_mul_of_lt_of_le (by omega) (by omega) (by omega)
      omega
    · rename_i h
      exact ⟨by omega, by omega⟩
theorem rt_le (m : Nat) : rt m * rt m ≤ m := (rt_both m).1
theorem rt_lt (m : Nat) : m < (rt m + 1) * (rt m + 1) := (rt_both m).2
theorem sq_le (m y : Nat) : y * y ≤ m ↔ y ≤ rt m := by
  constructor
  · intro h
    rcases Nat.lt_or_ge (rt m) y with h' | h'
    · have := Nat.mul_le_mul (show rt m + 1 ≤ y from h') (show rt m + 1 ≤ y from h')
      have := rt_lt m
      omega
    · exact h'
  · intro h
    exact Nat.le_trans (Nat.mul_le_mul h h) (rt_le m)
theorem rt_128 (m : Nat) (hm : m < M) : rt m < 2 ^ 128 := by
  rcases Nat.lt_or_ge (rt m) (2 ^ 128) with h | h
  · exact h
  · have h1 := Nat.mul_le_mul h h
    have h2 := rt_le m
    have : M = 2 ^ 128 * 2 ^ 128 := by decide
    omega
/-- The root's bits from n on. -/
def rn (m n : Nat) : Nat := rt m / 2 ^ n * 2 ^ n
theorem rn_bit (m n : Nat) : (rn m (n + 1)).testBit n = false := by
  rw [Nat.testBit, rn, Nat.pow_succ, ← Nat.div_div_eq_div_mul, Nat.mul_comm (2 ^ n) 2, ← Nat.mul_assoc, Nat.shiftRight_eq_div_pow, Nat.mul_div_cancel _ (Nat.two_pow_pos n)]
  simp [Nat.and_comm 1]
theorem rn_step (m n : Nat) : rn m n = if (rn m (n + 1) + 2 ^ n) * (rn m (n + 1) + 2 ^ n) ≤ m then rn m (n + 1) + 2 ^ n else rn m (n + 1) := by
  simp only [sq_le]
  unfold rn
  rw [Nat.pow_succ, ← Nat.div_div_eq_div_mul]
  have h := Nat.div_add_mod (rt m) (2 ^ n)
  have hp := Nat.two_pow_pos n
  have hl := Nat.mod_lt (rt m) hp
  generalize rt m = s at *
  generalize 2 ^ n = p at *
  generalize s % p = r at *
  generalize s / p = q at *
  have h2 := Nat.div_add_mod q 2
  have e1 : q / 2 * (p * 2) = 2 * (q / 2) * p := by rw [← Nat.mul_assoc, Nat.mul_comm (q / 2 * p), ← Nat.mul_assoc]
  rw [e1]
  rcases (show q % 2 = 0 ∨ q % 2 = 1 by omega) with e | e
  · rw [e, Nat.add_zero] at h2
    rw [h2, if_neg]
    rw [Nat.mul_comm q p]
    omega
  · rw [e] at h2
    have e3 : q * p = 2 * (q / 2) * p + p := by conv => lhs; rw [← h2, Nat.add_mul, Nat.one_mul]
    rw [Nat.mul_comm p q] at h
    rw [if_pos (by omega)]
    exact e3
theorem rn_128 (m : Nat) (hm : m < M) : rn m 128 = 0 := by
  rw [rn, Nat.div_eq_of_lt (rt_128 m hm), Nat.zero_mul]
theorem rn_zero (m : Nat) : rn m 0 = rt m := by simp [rn]
theorem rn_try (m n : Nat) (hm : m < M) (hn : n < 128) : rn m (n + 1) + 2 ^ n < 2 ^ 128 := by
  have h1 := rt_128 m hm
  have h2 : rn m (n + 1) ≤ rt m := Nat.div_mul_le_self _ _
  have h3 : rn m (n + 1) = rt m / 2 ^ (n + 1) * 2 ^ (n + 1) := rfl
  have h4 : (2 : Nat) ^ 128 = 2 ^ (127 - n) * 2 ^ (n + 1) := by rw [← Nat.pow_add]; congr 1; omega
  rw [h4] at h1 ⊢
  have h5 : rt m / 2 ^ (n + 1) < 2 ^ (127 - n) := by rw [Nat.div_lt_iff_lt_mul (Nat.two_pow_pos _)]; exact h1
  have h6 : (rt m / 2 ^ (n + 1) + 1) * 2 ^ (n + 1) ≤ 2 ^ (127 - n) * 2 ^ (n + 1) := Nat.mul_le_mul_right _ h5
  rw [Nat.add_mul, Nat.one_mul, ← h3] at h6
  have h7 : (2 : Nat) ^ n < 2 ^ (n + 1) := Nat.pow_lt_pow_right (by decide) (by omega)
  omega
theorem sq_M (y : Nat) (h : y < 2 ^ 128) : y < M ∧ y * y < M ∧ y * y / M = 0 := by
  have e : M = 2 ^ 128 * 2 ^ 128 := by decide
  have h1 : y * y < M := by rw [e]; exact Nat.mul_lt_mul_of_lt_of_le h (by omega) (by decide)
  have h2 : (2 : Nat) ^ 128 < M := by decide
  exact ⟨by omega, h1, Nat.div_eq_of_lt h1⟩
/-- Three rows: a number, an answer's place, a number that grows. -/
structure Tri (w W : World) (t : TypeId) (m r : Nat) : Prop where
  a : W.heap[w.heap.size]? = some (.cells (wn m) t (0, 0))
  b : W.heap[w.heap.size + 1]? = some (.cells (wn 0) t (0, 0))
  c : W.heap[w.heap.size + 1 + 1]? = some (.cells (wn r) t (0, 0))
  bel : Below w.heap.size w W
section
variable {w W W' : World} {t : TypeId} {m r : Nat}
theorem Tri.start (w : World) (t : TypeId) (m r : Nat) : Tri w (((w.alloc (.cells (wn m) t)).alloc (.cells (wn 0) t)).alloc (.cells (wn r) t)) t m r := by
  obtain ⟨e1, e2, e3⟩ := blk3 w (.cells (wn m) t) (.cells (wn 0) t) (.cells (wn r) t)
  exact ⟨e1, e2, e3, below3 w _ _ _⟩
theorem Tri.next (j : Tri w W t m r) (h : Below W.heap.size W W') : Tri w W' t m r := ⟨(h.block _ (lt_heap j.a)).trans j.a, (h.block _ (lt_heap j.b)).trans j.b, (h.block _ (lt_heap j.c)).trans j.c, below_next j.bel h⟩
theorem Tri.put (j : Tri w W t m r) (s : Nat) : Tri w (W.setRow (w.heap.size + 1 + 1) (wn s)) t m s :=
  ⟨(setRow_other _ _ _ _ (by omega)).trans j.a, (setRow_other _ _ _ _ (by omega)).trans j.b, setRow_heap _ _ _ _ _ _ j.c, below_setRow j.bel (by omega) _⟩
theorem Tri.lt (j : Tri w W t m r) : w.heap.size + 1 + 1 < W.heap.size := lt_heap j.c
end
theorem xor_ones (x : Nat) (h : x < 18446744073709551616) : 18446744073709551615 ^^^ x = 18446744073709551615 - x := by
  have e : 18446744073709551615 ^^^ x = (BitVec.allOnes 64 ^^^ BitVec.ofNat 64 x).toNat := by
    rw [BitVec.toNat_xor, BitVec.toNat_allOnes, BitVec.toNat_ofNat, Nat.mod_eq_of_lt h]
  rw [e, BitVec.allOnes_xor, BitVec.toNat_not, BitVec.toNat_ofNat, Nat.mod_eq_of_lt h]
theorem not_bits (x : Nat) (h : x < 18446744073709551616) : bits .xor .u64 (if IntKind.u64.signed = true then -1 else IntKind.u64.max) (x : Int) = ((18446744073709551615 - x : Nat) : Int) := by
  rw [show (if IntKind.u64.signed = true then -1 else IntKind.u64.max) = ((18446744073709551615 : Nat) : Int) from by decide, u64_xor_nat _ _ (by decide) h, xor_ones x h]
section
set_option maxRecDepth 10000
set_option maxHeartbeats 2000000
end
end Go.Proofs.YtofddbjnncgmlabGreatDoor
