/- The contracts of wide.divLong and wide.Div. Rows of numbers in a world, and classes of worlds that have them. Numbers of 40 bytes: their cells; the contracts of the document's Less and Zero. -/
import Derived.Test.YtofddbjnncgmlaaGreatDoorX17
import Derived.Test.YtofddbjnncgmlaaGreatDoorX15
namespace Go.Proofs.YtofddbjnncgmlaaGreatDoor
open Go.RowKit
open Go.Deep
theorem hsz (w : World) (o : Obj) : (w.alloc o).heap.size = w.heap.size + 1 := by simp
/-- What is known in the loop of a long division, J bits behind. -/
structure Lq (m n J cur q : Nat) : Prop where
  eq : m = q * n + cur
  lt : cur < n * 2 ^ J
  dv : q % 2 ^ J = 0
  up : ∀ k, J = k + 1 → n * 2 ^ k < M
theorem Lq.start (m n : Nat) (hm : m < M) (h0 : 0 < n) : Lq m n ((bl m : Int) - (bl n : Int) + 1).toNat m 0 := by
  have a1 := bl_lt m
  have a2 := bl_le n h0
  have a3 := bl_lt n
  have a4 := bl_pos n h0
  refine ⟨by simp, ?_, Nat.zero_mod _, fun k hk => ?_⟩
  · rcases Nat.lt_or_ge (bl m) (bl n) with h | h
    · rw [show ((bl m : Int) - (bl n : Int) + 1).toNat = 0 by omega, Nat.pow_zero, Nat.mul_one]
      have : 2 ^ bl m ≤ 2 ^ (bl n - 1) := Nat.pow_le_pow_right (by decide) (by omega)
      omega
    · rw [show ((bl m : Int) - (bl n : Int) + 1).toNat = bl m - bl n + 1 by omega]
      have e : 2 ^ bl m = 2 ^ (bl n - 1) * 2 ^ (bl m - bl n + 1) := by rw [← Nat.pow_add]; congr 1; omega
      have := Nat.mul_le_mul_right (2 ^ (bl m - bl n + 1)) a2
      omega
  · have e : 2 ^ bl m = 2 ^ bl n * 2 ^ k := by rw [← Nat.pow_add]; congr 1; omega
    have h1 := bl_le_of m 256 (by rw [← M_pow]; exact hm)
    have h2 : 2 ^ bl m ≤ 2 ^ 256 := Nat.pow_le_pow_right (by decide) h1
    have h3 := Nat.mul_lt_mul_of_pos_right a3 (Nat.two_pow_pos k)
    rw [M_pow]
    omega
theorem Lq.no {m n k cur q : Nat} (j : Lq m n (k + 1) cur q) (h : cur < n * 2 ^ k) : Lq m n k cur q := by
  refine ⟨j.eq, h, ?_, fun i hi => ?_⟩
  · have := j.dv
    rw [Nat.pow_succ] at this
    exact Nat.mod_eq_zero_of_dvd (Nat.dvd_trans (Nat.dvd_mul_right _ _) (Nat.dvd_of_mod_eq_zero this))
  · have h1 := j.up k rfl
    have : n * 2 ^ i ≤ n * 2 ^ k := Nat.mul_le_mul_left _ (Nat.pow_le_pow_right (by decide) (by omega))
    omega
theorem Lq.yes {m n k cur q : Nat} (j : Lq m n (k + 1) cur q) (h : ¬ cur < n * 2 ^ k) : Lq m n k (cur - n * 2 ^ k) (q + 2 ^ k) := by
  have e1 := j.eq
  have e2 := j.lt
  rw [Nat.pow_succ, ← Nat.mul_assoc] at e2
  refine ⟨?_, by omega, ?_, fun i hi => ?_⟩
  · rw [Nat.add_mul, Nat.mul_comm (2 ^ k) n]
    omega
  · have := j.dv
    rw [Nat.pow_succ] at this
    have h2 := Nat.dvd_trans (Nat.dvd_mul_right (2 ^ k) 2) (Nat.dvd_of_mod_eq_zero this)
    exact Nat.mod_eq_zero_of_dvd (Nat.dvd_add h2 (Nat.dvd_refl _))
  · have h1 := j.up k rfl
    have : n * 2 ^ i ≤ n * 2 ^ k := Nat.mul_le_mul_left _ (Nat.pow_le_pow_right (by decide) (by omega))
    omega
theorem Lq.bit {m n k cur q : Nat} (j : Lq m n (k + 1) cur q) : q.testBit k = false := by
  have := j.dv
  obtain ⟨c, hc⟩ := Nat.dvd_of_mod_eq_zero this
  rw [hc, Nat.testBit, Nat.shiftRight_eq_div_pow, Nat.pow_succ, Nat.mul_assoc, Nat.mul_div_cancel_left _ (Nat.two_pow_pos k)]
  simp [Nat.and_comm 1]
theorem Lq.fin {m n cur q : Nat} (j : Lq m n 0 cur q) : q = m / n ∧ cur = m % n := by
  have e := j.eq
  have l := j.lt
  rw [Nat.pow_zero, Nat.mul_one] at l
  subst e
  have h0 : 0 < n := by omega
  rw [Nat.mul_comm q n, Nat.mul_add_div h0, Nat.div_eq_of_lt l, Nat.mul_add_mod, Nat.mod_eq_of_lt l]
  simp
theorem Lq.le {m n J cur q : Nat} (j : Lq m n J cur q) : cur ≤ m ∧ (0 < n → q ≤ m) := by
  have e := j.eq
  refine ⟨by omega, fun h => ?_⟩
  have := Nat.le_mul_of_pos_right q h
  omega
/-- Five rows of a long division. -/
structure Dl (w W : World) (t : TypeId) (cur n q : Nat) : Prop where
  a : W.heap[w.heap.size]? = some (.cells (wn cur) t (0, 0))
  b : W.heap[w.heap.size + 1]? = some (.cells (wn n) t (0, 0))
  r : W.heap[w.heap.size + 1 + 1]? = some (.cells (wn 0) t (0, 0))
  s : W.heap[w.heap.size + 1 + 1 + 1]? = some (.cells (wn 0) t (0, 0))
  q : W.heap[w.heap.size + 1 + 1 + 1 + 1]? = some (.cells (wn q) t (0, 0))
  bel : Below w.heap.size w W
section
variable {w W W' : World} {t : TypeId} {cur n q : Nat}
theorem Dl.start (w : World) (t : TypeId) (m n : Nat) : Dl w (((((w.alloc (.cells (wn m) t)).alloc (.cells (wn n) t)).alloc (.cells (wn 0) t)).alloc (.cells (wn 0) t)).alloc (.cells (wn 0) t)) t m n 0 := by
  obtain ⟨e1, e2, e3, e4⟩ := blk4 w (.cells (wn m) t) (.cells (wn n) t) (.cells (wn 0) t) (.cells (wn 0) t)
  have b4 := below4 w (.cells (wn m) t) (.cells (wn n) t) (.cells (wn 0) t) (.cells (wn 0) t)
  have hs : ((((w.alloc (.cells (wn m) t)).alloc (.cells (wn n) t)).alloc (.cells (wn 0) t)).alloc (.cells (wn 0) t)).heap.size = w.heap.size + 1 + 1 + 1 + 1 := by simp
  have e5 := heap_alloc_last ((((w.alloc (.cells (wn m) t)).alloc (.cells (wn n) t)).alloc (.cells (wn 0) t)).alloc (.cells (wn 0) t)) (.cells (wn 0) t)
  rw [hs] at e5
  exact ⟨(Below.heap_alloc _ _ _ (lt_heap e1)).trans e1, (Below.heap_alloc _ _ _ (lt_heap e2)).trans e2, (Below.heap_alloc _ _ _ (lt_heap e3)).trans e3, (Below.heap_alloc _ _ _ (lt_heap e4)).trans e4, e5, b4.alloc (by simp; omega) _⟩
theorem Dl.next (j : Dl w W t cur n q) (h : Below W.heap.size W W') : Dl w W' t cur n q :=
  ⟨(h.block _ (lt_heap j.a)).trans j.a, (h.block _ (lt_heap j.b)).trans j.b, (h.block _ (lt_heap j.r)).trans j.r, (h.block _ (lt_heap j.s)).trans j.s, (h.block _ (lt_heap j.q)).trans j.q, below_next j.bel h⟩
theorem Dl.drew (j : Dl w W t cur n q) : Dl w W.drew t cur n q := ⟨j.a, j.b, j.r, j.s, j.q, j.bel.drew⟩
theorem Dl.alloc (j : Dl w W t cur n q) (o : Obj) : Dl w (W.alloc o) t cur n q := j.next ((Below.refl _ _).alloc (Nat.le_refl _) _)
theorem Dl.put (j : Dl w W t cur n q) (c p : Nat) : Dl w ((W.setRow w.heap.size (wn c)).setRow (w.heap.size + 1 + 1 + 1 + 1) (wn p)) t c n p :=
  ⟨(setRow_other _ _ _ _ (by omega)).trans (setRow_heap _ _ _ _ _ _ j.a), (setRow_other _ _ _ _ (by omega)).trans ((setRow_other _ _ _ _ (by omega)).trans j.b), (setRow_other _ _ _ _ (by omega)).trans ((setRow_other _ _ _ _ (by omega)).trans j.r), (setRow_other _ _ _ _ (by omega)).trans ((setRow_other _ _ _ _ (by omega)).trans j.s), setRow_heap _ _ _ _ _ _ ((setRow_other _ _ _ _ (by omega)).trans j.q), below_setRow (below_setRow j.bel (Nat.le_refl _) _) (by omega) _⟩
theorem Dl.lt (j : Dl w W t cur n q) : w.heap.size + 1 + 1 + 1 + 1 < W.heap.size := lt_heap j.q
theorem Dl.two (j : Dl w W t cur n q) (c d : Array Value) : ((W.setRow (w.heap.size + 1 + 1) c).setRow (w.heap.size + 1 + 1 + 1) d).heap[w.heap.size + 1 + 1]? = some (.cells c t (0, 0)) ∧ ((W.setRow (w.heap.size + 1 + 1) c).setRow (w.heap.size + 1 + 1 + 1) d).heap[w.heap.size + 1 + 1 + 1]? = some (.cells d t (0, 0)) ∧ Below w.heap.size w ((W.setRow (w.heap.size + 1 + 1) c).setRow (w.heap.size + 1 + 1 + 1) d) :=
  ⟨(setRow_other _ _ _ _ (by omega)).trans (setRow_heap _ _ _ _ _ _ j.r), setRow_heap _ _ _ _ _ _ ((setRow_other _ _ _ _ (by omega)).trans j.s), below_setRow (below_setRow j.bel (by omega) _) (by omega) _⟩
end
theorem wn_df (m n : Nat) (h : ¬ m < n) : wn (df m n) = wn (m - n) := by
  rw [← wn_mod (df m n), df, show m + M - n = m - n + M by omega, Nat.add_mod_right, wn_mod]
attribute [local go_sem ↓] ldW_eq svW_eq
section
set_option maxRecDepth 10000
set_option maxHeartbeats 4000000
theorem divLong_any (m n : Nat) (hm : m < M) (h0 : 0 < n) (hn : n < M) (w : World) : Calls Tryz.prog 297 #[.agg (wn m), .agg (wn n)] w fun e w' => e = .returned (.tuple #[.agg (wn (m / n)), .agg (wn (m % n))]) ∧ Below w.heap.size w w' := by
  have J0 := hide (Dl.start w 51 m n)
  have HB1 := hide fun W => bits_any m hm W
  have HB2 := hide fun W => bits_any n hn W
  have L0 := hide (Lq.start m n hm h0)
  have b1 := bl_le_of m 256 (by rw [← M_pow]; exact hm)
  have b2 := bl_le_of n 256 (by rw [← M_pow]; exact hn)
  have hw : IntKind.i64.wrap ((bl m : Int) - (bl n : Int)) = (bl m : Int) - (bl n : Int) := wrapI _ (by omega) (by omega)
  have b3 := bl_pos n h0
  have JB := hide (show -256 ≤ (bl m : Int) - (bl n : Int) ∧ (bl m : Int) - (bl n : Int) ≤ 255 by omega)
  have HM := hide (And.intro hm (And.intro h0 hn))
  clear hm h0 hn b1 b2 b3
  generalize hx : (bl m : Int) = bm at *
  generalize hy : (bl n : Int) = bn at *
  clear hx hy
  go_enter Tryz.func297, Tryz.ntmps297
  go_upto_region 2 with (first | refine wpList_boxA rfl _ rfl (wn m) rfl ?_ | refine wpList_boxA rfl _ rfl (wn n) rfl ?_ | refine wpList_allocA AW rfl rfl ?_)
  generalize ((((w.alloc (.cells (wn m) 51)).alloc (.cells (wn n) 51)).alloc (.cells (wn 0) 51)).alloc (.cells (wn 0) 51)).alloc (.cells (wn 0) 51) = W0 at *
  obtain ⟨I, hne, F, i0, hF0, hJ, hcl⟩ : ∃ (I : Type) (_ : Nonempty I) (F : I → World) (i0 : I), W0.drew = F i0 ∧ Hid (∀ i, Dl w (F i) 51 m n 0) ∧ Hid (∀ i W', Below (F i).heap.size (F i) W' → ∃ j, W' = F j) :=
    ⟨{W : World // Dl w W 51 m n 0}, ⟨⟨_, J0.out⟩⟩, Subtype.val, ⟨W0.drew, J0.out.drew⟩, rfl, fun i => i.2, fun i W' b => ⟨⟨W', i.2.next b⟩, rfl⟩⟩
  simp only [Act.put, List.setIfInBounds_toArray, List.set_cons_succ, List.set_cons_zero, hsz]
  refine wp_region_class_lit (by kernel_rfl) (by kernel_rfl) i0 hF0 ?_
  repeat (first | ((go_big_quiet_want; first | refine quiet_loadA AW _ (by rfl) _ (by rfl) (wn m) (wn_size _) 51 (fun W hC => by obtain ⟨i, rfl⟩ := hC; exact (hJ.out i).a) ?_ | refine quiet_loadA AW _ (by rfl) _ (by rfl) (wn n) (wn_size _) 51 (fun W hC => by obtain ⟨i, rfl⟩ := hC; exact (hJ.out i).b) ?_); go_big_quiet_on; simp only [Act.put, List.setIfInBounds_toArray, List.set_cons_succ, List.set_cons_zero]) | go_big_quiet_step ((go_at_call_of 332 (Value.agg (wn m)); exact class_of hcl.out (HB1.out _))) | go_big_quiet_step ((go_at_call_of 332 (Value.agg (wn n)); exact class_of hcl.out (HB2.out _))))
  refine wpQuiet_nil ?_
  rintro _ ⟨iq, rfl⟩
  have J1 := hide (hJ.out iq)
  clear hcl hF0 hJ J0 HB1 HB2
  generalize F iq = W1 at *
  generalize bm - bn = j0 at *
  go_wp2
  go_loopw [7, 8, 9, 10, 11] (fun d _ _ _ _ wr => ∃ (j : Int) (cur q : Nat), -256 ≤ j ∧ j ≤ 255 ∧ d = .int .i64 j ∧ Hid (Dl w wr 51 cur n q) ∧ Hid (Lq m n (j + 1).toNat cur q)) (fun d _ _ _ _ _ => (1 + intOf d).toNat)
  case atStart => exact ⟨j0, m, 0, JB.out.1, JB.out.2, rfl, J1, L0⟩
  case round =>
    clear J1 L0 JB
    obtain ⟨j, cur, q, hj1, hj2, rfl, J, L⟩ := hrel
    by_cases hneg : j < 0
    · have t1 : ¬ (0 : Int) ≤ j := by omega
      rw [show (j + 1).toNat = 0 by omega] at L
      have HF := hide L.out.fin
      clear L
      generalize hQ : q = Q at *
      generalize hR : cur = R at *
      clear hQ hR
      have l1 := ldW_row (W := wr.drew) J.out.a
      have l2 := ldW_row (W := wr.drew) J.out.q
      have s1 := svW_row (w := wr.drew) J.out.r Q
      have l3 := ldW_row (W := wr.drew.setRow (w.heap.size + 1 + 1) (wn Q)) (g := w.heap.size) ((setRow_other _ _ _ _ (by omega)).trans J.out.a)
      have s2 := svW_row (w := wr.drew.setRow (w.heap.size + 1 + 1) (wn Q)) ((setRow_other _ _ _ _ (by omega)).trans J.out.s) R
      go_upto_region 9 with fail
      go_region
      go_wp2
      exact bodyPost_ret (v := .tuple #[.agg (wn Q), .agg (wn R)]) (resAA AW Tryz.results297 _ _ (w.heap.size + 1 + 1) (w.heap.size + 1 + 1 + 1) 51 (wn Q) (wn R) (wn_size _) (wn_size _) rfl (J.out.drew.two _ _).1 rfl (J.out.drew.two _ _).2.1) rfl ⟨by rw [← HF.out.1, ← HF.out.2], (J.out.drew.two _ _).2.2⟩
    · obtain ⟨k, rfl⟩ := Int.eq_ofNat_of_zero_le (show 0 ≤ j by omega)
      have k0 : (0 : Int) ≤ k := by omega
      rw [show ((k : Int) + 1).toNat = k + 1 by omega] at L
      have hup := L.out.up k rfl
      have hcM : cur < M := Nat.lt_of_le_of_lt L.out.le.1 HM.out.1
      have HL := hide fun W => left_pos n k k HM.out.2.2 (by unfold sh; rw [if_neg (by omega), if_neg (by omega)]) (by omega) W
      have HS := hide fun W => wsub_any cur (n * 2 ^ k) hcM hup W
      have hkw : IntKind.i64.wrap ((k : Int) - 1) = k - 1 := wrapI _ (by omega) (by omega)
      have K1 := hide (show -256 ≤ (k : Int) - 1 ∧ (k : Int) - 1 ≤ 255 ∧ ((k : Int) - 1 + 1).toNat = k by omega)
      have KL := hide (show (1 + ((k : Int) - 1)).toNat < (1 + (k : Int)).toNat by omega)
      have LNo := hide fun h => L.out.no h
      have LYes := hide fun h => L.out.yes h
      have HW := hide fun W => withBit_any q k (by omega) L.out.bit W
      have HD := hide fun h => wn_df cur (n * 2 ^ k) h
      generalize decide (M ≤ n * 2 ^ k) = ov at *
      generalize n * 2 ^ k = P at *
      clear hneg hj1 hj2 hup hcM L
      have bb := hide J.out.b
      go_upto_region 6 with (first | refine wpList_loadA AW rfl _ rfl _ rfl (wn n) (wn_size _) 51 bb.out ?_ | (go_at_call 255; refine (HL.out _).mono ?_; rintro e w1 ⟨rfl, be⟩; have J1 := hide (J.out.next be); clear be) | refine wpList_allocA AW rfl rfl ?_ | refine wpList_store_newA AW rfl _ _ rfl _ rfl (wn P) (wn_size _) (wn_one _) rfl rfl ?_)
      have G1 := hide (heap_alloc_last w1 (.cells (wn P) 51))
      have J2 := hide (J1.out.alloc (.cells (wn P) 51))
      generalize w1.alloc (.cells (wn P) 51) = W2 at *
      generalize w1.heap.size = g at *
      clear J J1 bb HL
      have aa := hide J2.out.a
      by_cases hlt : cur < P
      · have L1 := hide (LNo.out hlt)
        rw [show decide (cur < P) = true by simp [hlt]] at HS
        clear LNo LYes HD HW hlt
        generalize df cur P = D at *
        go_wp2_with (first | refine wpList_loadA AW rfl _ rfl _ rfl (wn cur) (wn_size _) 51 aa.out ?_ | refine wpList_loadA AW rfl _ rfl _ rfl (wn P) (wn_size _) 51 G1.out ?_ | (go_at_call 256; refine (HS.out _).mono ?_; rintro e w3 ⟨rfl, be⟩; have J3 := hide (J2.out.next be); clear be) | refine wpList_allocA AW rfl rfl ?_ | refine wpList_store_newA AW rfl _ _ rfl _ rfl (wn D) (wn_size _) (wn_one _) rfl rfl ?_)
        exact ⟨⟨(k : Int) - 1, cur, q, K1.out.1, K1.out.2.1, rfl, hide (J3.out.alloc _), by rw [K1.out.2.2]; exact L1⟩, by simp [intOf]; omega⟩
      · have L1 := hide (LYes.out hlt)
        rw [show decide (cur < P) = false by simp [hlt], HD.out hlt] at HS
        clear LNo LYes HD hlt
        generalize cur - P = D at *
        generalize q + 2 ^ k = Q at *
        go_upto_region 8 with (first | refine wpList_loadA AW rfl _ rfl _ rfl (wn cur) (wn_size _) 51 aa.out ?_ | refine wpList_loadA AW rfl _ rfl _ rfl (wn P) (wn_size _) 51 G1.out ?_ | (go_at_call 256; refine (HS.out _).mono ?_; rintro e w3 ⟨rfl, be⟩; have J3 := hide (J2.out.next be); clear be) | refine wpList_allocA AW rfl rfl ?_ | refine wpList_store_newA AW rfl _ _ rfl _ rfl (wn D) (wn_size _) (wn_one _) rfl rfl ?_)
        have G3 := hide (heap_alloc_last w3 (.cells (wn D) 51))
        have J4 := hide (J3.out.alloc (.cells (wn D) 51))
        generalize w3.alloc (.cells (wn D) 51) = W4 at *
        generalize w3.heap.size = g3 at *
        clear J2 J3 G1 aa HS
        have l0 := ldW_row (W := W4.drew) G3.out
        have l1 := ldW_row (W := W4.drew) J4.out.q
        go_region_with (go_at_call 333; refine (HW.out _).mono ?_; rintro e w5 ⟨rfl, be⟩; have J5 := hide (J4.out.drew.next be); have l2 := ldW_row ((be.block _ (lt_heap G3.out)).trans G3.out); have s1 := svW_row J5.out.a D; have s2 := svW_row (w := w5.setRow w.heap.size (wn D)) ((setRow_other _ _ _ _ (by omega)).trans J5.out.q) Q; clear be)
        all_goals (go_wp2; exact ⟨⟨(k : Int) - 1, D, Q, K1.out.1, K1.out.2.1, rfl, hide (J5.out.put D Q), by rw [K1.out.2.2]; exact L1⟩, by simp [intOf]; omega⟩)
end
end Go.Proofs.YtofddbjnncgmlaaGreatDoor
namespace Go.Proofs.YtofddbjnncgmlaaGreatDoor
open Go.RowKit
open Go.Deep
/-- Rows of numbers: place, type, number. -/
structure Rs (w W : World) (l : List (Nat × TypeId × Nat)) : Prop where
  row : ∀ p ∈ l, W.heap[p.1]? = some (.cells (wn p.2.2) p.2.1 (0, 0))
  bel : Below w.heap.size w W
section
variable {w W W' : World} {l : List (Nat × TypeId × Nat)} {g n : Nat} {t : TypeId}
theorem Rs.at (j : Rs w W l) (h : (g, t, n) ∈ l) : W.heap[g]? = some (.cells (wn n) t (0, 0)) := j.row _ h
theorem Rs.next (j : Rs w W l) (h : Below W.heap.size W W') : Rs w W' l := ⟨fun p hp => (h.block _ (lt_heap (j.row p hp))).trans (j.row p hp), below_next j.bel h⟩
theorem Rs.drew (j : Rs w W l) : Rs w W.drew l := ⟨j.row, j.bel.drew⟩
theorem Rs.new (j : Rs w W l) (t : TypeId) (x : Nat) : Rs w (W.alloc (.cells (wn x) t)) ((W.heap.size, t, x) :: l) := by
  have k := j.next ((Below.refl _ _).alloc (Nat.le_refl _) (.cells (wn x) t))
  refine ⟨fun p hp => ?_, k.bel⟩
  rcases List.mem_cons.1 hp with rfl | h
  · exact heap_alloc_last _ _
  · exact k.row p h
theorem Rs.two (j : Rs w W l) (t : TypeId) (x y : Nat) : Rs w ((((W.alloc (.cells (wn 0) t)).alloc (.cells (wn 0) t)).setRow W.heap.size (wn x)).setRow (W.heap.size + 1) (wn y)) ((W.heap.size, t, x) :: (W.heap.size + 1, t, y) :: l) := by
  obtain ⟨e1, e2, b⟩ := blk2w W t (wn 0) (wn x) (wn y)
  have k := j.next b
  refine ⟨fun p hp => ?_, k.bel⟩
  rcases List.mem_cons.1 hp with rfl | hp
  · exact e1
  · rcases List.mem_cons.1 hp with rfl | h
    · exact e2
    · exact k.row p h
theorem Rs.start2 (w : World) (t : TypeId) (m n : Nat) : Rs w ((w.alloc (.cells (wn m) t)).alloc (.cells (wn n) t)) [(w.heap.size + 1, t, n), (w.heap.size, t, m)] := by
  obtain ⟨e1, e2⟩ := blk2x w (.cells (wn m) t) (.cells (wn n) t)
  refine ⟨fun p hp => ?_, below2x w _ _⟩
  simp only [List.mem_cons, List.not_mem_nil, or_false] at hp
  rcases hp with rfl | rfl
  · exact e2
  · exact e1
theorem Rs.start1 (w : World) (t : TypeId) (m : Nat) : Rs w (w.alloc (.cells (wn m) t)) [(w.heap.size, t, m)] := by
  refine ⟨fun p hp => ?_, (Below.refl _ _).alloc (Nat.le_refl _) _⟩
  simp only [List.mem_cons, List.not_mem_nil, or_false] at hp
  subst hp
  exact heap_alloc_last _ _
/-- Worlds in which these rows lie, as a class. -/
theorem Rs.cls (j : Rs w W l) : ∃ (I : Type) (_ : Nonempty I) (F : I → World) (i0 : I), W.drew = F i0 ∧ Hid (∀ i, Rs w (F i) l) ∧ Hid (∀ i W', Below (F i).heap.size (F i) W' → ∃ j, W' = F j) :=
  ⟨{W : World // Rs w W l}, ⟨⟨_, j⟩⟩, Subtype.val, ⟨W.drew, j.drew⟩, rfl, fun i => i.2, fun i W' b => ⟨⟨W', i.2.next b⟩, rfl⟩⟩
theorem Rs.of {I : Type} {F : I → World} (hJ : Hid (∀ i, Rs w (F i) l)) (h : (g, t, n) ∈ l) (W : World) (hC : ∃ i, W = F i) : W.heap[g]? = some (.cells (wn n) t (0, 0)) := by
  obtain ⟨i, rfl⟩ := hC
  exact (hJ.out i).at h
end
theorem below_allocZ (W : World) (o : Obj) : Below W.heap.size W (W.alloc o) := (Below.refl _ _).alloc (Nat.le_refl _) _
theorem Rs.put {w W : World} {l l' : List (Nat × TypeId × Nat)} (j : Rs w W l) (g : Nat) (t : TypeId) (x : Nat) (h : ∃ y, (g, t, y) ∈ l) (hg : w.heap.size ≤ g) (hl : ∀ p ∈ l', p = (g, t, x) ∨ (p ∈ l ∧ p.1 ≠ g)) : Rs w (W.setRow g (wn x)) l' := by
  obtain ⟨y, hy⟩ := h
  refine ⟨fun p hp => ?_, below_setRow j.bel hg _⟩
  rcases hl p hp with rfl | ⟨h1, h2⟩
  · exact setRow_heap _ _ _ _ _ _ (j.at hy)
  · exact (setRow_other _ _ _ _ h2).trans (j.row p h1)
end Go.Proofs.YtofddbjnncgmlaaGreatDoor
namespace Go.Proofs.YtofddbjnncgmlaaGreatDoor
open Go.RowKit
open Go.Deep
/-- Ints as cells. -/
def ic (k : Nat) (f : Nat → Nat) : Array Value := ((List.range k).map fun i => Value.int .i64 ((f i : Nat) : Int)).toArray
theorem ic_size (k : Nat) (f : Nat → Nat) : (ic k f).size = k := by simp [ic]
theorem ic_one (k : Nat) (f : Nat → Nat) : (ic k f).all (·.oneCell') = true := by
  rw [Array.all_eq_true_iff_forall_mem]
  intro v hv
  simp only [ic, List.mem_toArray, List.mem_map] at hv
  obtain ⟨b, _, rfl⟩ := hv
  rfl
theorem ic_at (k : Nat) (f : Nat → Nat) (i : Nat) (hi : i < k) : (ic k f)[i]? = some (.int .i64 ((f i : Nat) : Int)) := by
  simp [ic, hi]
theorem ic_congr {k : Nat} {f g : Nat → Nat} (h : ∀ i, i < k → f i = g i) : ic k f = ic k g := by
  unfold ic
  congr 1
  apply List.map_congr_left
  intro i hi
  rw [h i (by simpa using hi)]
/-- Ints at block g. -/
def Ni (W : World) (g : Nat) (t : TypeId) (k : Nat) (f : Nat → Nat) : Prop := W.rowIs g t k (fun i => .int .i64 ((f i : Nat) : Int))
section
variable {W W' : World} {g : Nat} {t : TypeId} {k : Nat} {f : Nat → Nat}
theorem Ni.heap (h : Ni W g t k f) : W.heap[g]? = some (.cells (ic k f) t (0, 0)) := of_row (ic_size k f) h (fun i hi => ic_at k f i hi)
theorem Ni.of_heap (h : W.heap[g]? = some (.cells (ic k f) t (0, 0))) : Ni W g t k f := row_of (ic_size k f) h (fun i hi => ic_at k f i hi)
theorem Ni.lt (h : Ni W g t k f) : g < W.heap.size := World.rowIs.lt h
theorem Ni.of_block (h : Ni W g t k f) (e : W'.heap[g]? = W.heap[g]?) : Ni W' g t k f := World.rowIs.of_block h e
theorem Ni.fz (h : Ni W g t k f) (i : Nat) : W.frozen? ⟨g, i, none⟩ = false := World.rowIs.frozen h i
theorem Ni.cell (h : Ni W g t k f) {i : Nat} (hi : i < k) : W.cell? ⟨g, i, none⟩ = some (.int .i64 ((f i : Nat) : Int)) := World.rowIs.cell h hi
theorem Ni.set (h : Ni W g t k f) (i x : Nat) : Ni (W.setCell ⟨g, i, none⟩ (.int .i64 ((x : Nat) : Int))) g t k (fun j => if j = i then x else f j) := by
  refine (World.rowIs.set h i _).congr (fun j hj => ?_)
  by_cases e : j = i <;> simp [e]
theorem Ni.congr (h : Ni W g t k f) {f' : Nat → Nat} (e : ∀ i, i < k → f i = f' i) : Ni W g t k f' := World.rowIs.congr h (fun i hi => by rw [e i hi])
theorem Ni.other (h : Ni W g t k f) {b : Nat} (hb : b ≠ g) (i : Nat) (v : Value) : Ni (W.setCell ⟨b, i, none⟩ v) g t k f := h.of_block (Below.heap_setCell _ _ _ _ (Ne.symm hb))
theorem Ni.row (h : Ni W g t k f) {b : Nat} (hb : b ≠ g) (c : Array Value) : Ni (W.setRow b c) g t k f := h.of_block (setRow_other W b g c (Ne.symm hb))
theorem Ni.below (h : Ni W g t k f) (b : Below W.heap.size W W') : Ni W' g t k f := h.of_block (b.block _ h.lt)
theorem Ni.drew (h : Ni W g t k f) : Ni W.drew g t k f := h
end
/-- The cells of a number of 40 bytes. -/
def bn (n : Nat) : Array Value := ic 40 (dg 256 n)
theorem bn_size (n : Nat) : (bn n).size = 40 := ic_size 40 _
theorem bn_one (n : Nat) : (bn n).all (·.oneCell') = true := ic_one 40 _
def MB : Nat := 256 ^ 40
theorem MB_pos : 0 < MB := by decide +kernel
theorem M_MB : M < MB := by decide +kernel
theorem bn_mod (n : Nat) : bn (n % MB) = bn n := ic_congr fun i hi => dg_mod 256 n 40 i hi
theorem AN : Arr 180 40 (bn 0) := ⟨.inl ⟨_, _, Tryz.underlying180⟩, by kernel_rfl, fun w => by kernel_rfl, fun w => by kernel_rfl, bn_size 0⟩
theorem size3 (w : World) : (sizeOf 3).run Tryz.prog w = .ok 1 w := by kernel_rfl
theorem eqgN : Tryz.prog.eqGuardType Tryz.prog.depth 180 = false := by kernel_rfl
set_option maxRecDepth 20000 in
theorem eq_ic (t : TypeId) (k : Nat) (ht : Tryz.prog.underlying t = some (.array k 3)) (f g : Nat → Nat) (w : World) : (Op.equalIn 10000 t (.agg (ic k f)) (.agg (ic k g))).run Tryz.prog w = .ok ((List.range k).all fun i => f i == g i) w := by
  rw [List.range_eq_range', Op.equalIn]
  simp only [Sem.run_bind, run_underlying ht, Result.andThen_ok, size3, Std.Legacy.Range.forIn_eq_forIn_range', Std.Legacy.Range.size, Nat.sub_zero, Nat.add_sub_cancel, Nat.div_one]
  have hr : ∀ i ∈ List.range' 0 k 1, i < k := fun i hi => by simpa using (List.mem_range'_1.1 hi).2
  generalize List.range' 0 k 1 = r at hr ⊢
  induction r with
  | nil => simp
  | cons i r ih =>
    have hi : i < k := hr i (by simp)
    have hp : ∀ h : Nat → Nat, (Go.part 3 (ic k h) (i * 1)).run Tryz.prog w = .ok (.int .i64 ((h i : Nat) : Int)) w := fun h => by
      simp [Go.part, isAgg, run_underlying Tryz.underlying3, ic_at k h i hi]
    have he : (Op.equalIn 9999 3 (.int .i64 ((f i : Nat) : Int)) (.int .i64 ((g i : Nat) : Int))).run Tryz.prog w = .ok (f i == g i) w := by
      rw [run_equalIn_int w 9998 3 .i64 .i64 _ _ Tryz.underlying3]
      congr 1
      rw [Bool.eq_iff_iff]
      simp
      omega
    simp only [List.forIn_cons, Sem.run_bind, hp, he, Result.andThen_ok, List.all_cons]
    cases hb : (f i == g i)
    · simp
    · simp only [Bool.not_true, Bool.false_eq_true, if_false, Sem.run_pure, Result.andThen_ok, Bool.true_and]
      exact ih fun j hj => hr j (by simp [hj])
theorem eqN (m n : Nat) (hm : m < MB) (hn : n < MB) (w : World) : (Op.equalIn 10000 180 (.agg (bn m)) (.agg (bn n))).run Tryz.prog w = .ok (decide (m = n)) w := by
  have e : ((List.range 40).all fun i => dg 256 m i == dg 256 n i) = decide (m = n) := by
    rw [Bool.eq_iff_iff]
    simp only [List.all_eq_true, List.mem_range, beq_iff_eq, decide_eq_true_eq]
    exact ⟨fun h => dg_ext hm hn h, fun h i _ => by rw [h]⟩
  rw [← e]
  exact eq_ic _ 40 Tryz.underlying180 _ _ w
/-- Numbers held against each other, byte by byte. -/
theorem div_byte_step (B m i : Nat) : m / B ^ i = B * (m / B ^ (i + 1)) + dg B m i := by
  unfold dg
  rw [Nat.pow_succ, ← Nat.div_div_eq_div_mul]
  exact (Nat.div_add_mod _ _).symm
theorem byte_eq {B m n i : Nat} (h : m / B ^ (i + 1) = n / B ^ (i + 1)) (e : dg B m i = dg B n i) : m / B ^ i = n / B ^ i := by
  rw [div_byte_step, div_byte_step B n, h, e]
theorem byte_lt {B m n i : Nat} (h : m / B ^ (i + 1) = n / B ^ (i + 1)) (e : dg B m i < dg B n i) : m < n := by
  have h1 := div_byte_step B m i
  have h2 := div_byte_step B n i
  rw [h] at h1
  rcases Nat.lt_or_ge m n with h' | h'
  · exact h'
  · have := Nat.div_le_div_right (c := B ^ i) h'
    omega
section
set_option maxRecDepth 10000
set_option maxHeartbeats 2000000
theorem zeroN_any (m : Nat) (hm : m < MB) (w : World) : Calls Tryz.prog 263 #[.agg (bn m)] w fun e w' => e = .returned (.bool (decide (m = 0))) ∧ Below w.heap.size w w' := by
  have HE := hide fun W => eqN m 0 hm MB_pos W
  have H1 := hide (heap_alloc_last w (.cells (bn m) 180))
  generalize decide (m = 0) = v at *
  go_enter Tryz.func263, Tryz.ntmps263
  go_wp2_with (first | refine wpList_boxA rfl _ rfl (bn m) rfl ?_ | refine wpList_loadA AN rfl _ rfl _ rfl (bn m) (bn_size _) 180 H1.out ?_ | refine wpList_buildA AN rfl rfl ?_ | refine wpList_eql 180 _ _ _ rfl (bn m) (bn 0) rfl rfl rfl eqgN v HE.out ?_)
  go_ret
  exact ⟨rfl, (Below.refl _ _).alloc (Nat.le_refl _) _⟩
theorem less_any (m n : Nat) (hm : m < MB) (hn : n < MB) (w : World) : Calls Tryz.prog 180 #[.agg (bn m), .agg (bn n)] w fun e w' => e = .returned (.bool (decide (m < n))) ∧ Below w.heap.size w w' := by
  obtain ⟨e1, e2⟩ := blk2x w (.cells (bn m) 180) (.cells (bn n) 180)
  have J0 : Hid (Ni ((w.alloc (.cells (bn m) 180)).alloc (.cells (bn n) 180)) w.heap.size 180 40 (dg 256 m) ∧ Ni ((w.alloc (.cells (bn m) 180)).alloc (.cells (bn n) 180)) (w.heap.size + 1) 180 40 (dg 256 n) ∧ Below w.heap.size w ((w.alloc (.cells (bn m) 180)).alloc (.cells (bn n) 180))) := ⟨Ni.of_heap e1, Ni.of_heap e2, below2x w _ _⟩
  have H4 : Hid (m / 256 ^ 40 = n / 256 ^ 40) := by
    show m / MB = n / MB
    rw [Nat.div_eq_of_lt hm, Nat.div_eq_of_lt hn]
  clear e1 e2 hm hn
  go_enter Tryz.func180, Tryz.ntmps180
  go_wp2_with (first | refine wpList_boxA rfl _ rfl (bn m) rfl ?_ | refine wpList_boxA rfl _ rfl (bn n) rfl ?_)
  generalize (w.alloc (.cells (bn m) 180)).alloc (.cells (bn n) 180) = W0 at *
  go_loopw [5] (fun d wr => ∃ i : Nat, i ≤ 40 ∧ d = .int .i64 ((i : Int) - 1) ∧ Hid (Ni wr w.heap.size 180 40 (dg 256 m) ∧ Ni wr (w.heap.size + 1) 180 40 (dg 256 n) ∧ Below w.heap.size w wr) ∧ Hid (m / 256 ^ i = n / 256 ^ i)) (fun d _ => (1 + intOf d).toNat)
  case atStart => exact ⟨40, by omega, rfl, J0, H4⟩
  case round =>
    clear J0 H4
    obtain ⟨i, hi, rfl, J, H⟩ := hrel
    rcases i with _ | i
    · have h0 : ¬ (0 : Int) ≤ ((0 : Nat) : Int) - 1 := by omega
      have hz : Hid (decide (m < n) = false) := by
        have := H.out
        simp at this
        unfold Hid
        simp [this]
      go_wp2
      go_ret
      exact ⟨by rw [hz.out]; rfl, J.out.2.2⟩
    · have e1 : ((i + 1 : Nat) : Int) - 1 = i := by omega
      have hi4 : (i : Int) < 40 := by omega
      have b0 : (0 : Int) ≤ i := by omega
      have ca := J.out.1.cell (show i < 40 by omega)
      have cb := J.out.2.1.cell (show i < 40 by omega)
      have hlt4 := hide (show i ≤ 40 by omega)
      rw [e1]
      by_cases h : dg 256 m i = dg 256 n i
      · have H1 := hide (byte_eq H.out h)
        rw [h] at ca
        clear h hi
        generalize hB : ((dg 256 n i : Nat) : Int) = B at *
        clear hB
        have hBB : (B != B) = false := by simp
        go_upto_region 4 with fail
        go_quiet (fail)
        go_wp2
        exact ⟨⟨i, hlt4.out, rfl, ⟨J.out.1, J.out.2.1, below_drewN J.out.2.2 _⟩, H1⟩, by simp [intOf]; omega⟩
      · have hz : Hid (decide (m < n) = decide (((dg 256 m i : Nat) : Int) < ((dg 256 n i : Nat) : Int))) := by
          unfold Hid
          rcases Nat.lt_or_ge (dg 256 m i) (dg 256 n i) with h1 | h1
          · have := byte_lt H.out h1
            simp [this]
            omega
          · have := byte_lt H.out.symm (show dg 256 n i < dg 256 m i by omega)
            rw [show decide (m < n) = false by simp; omega]
            simp
            omega
        have hne : (((dg 256 m i : Nat) : Int) != ((dg 256 n i : Nat) : Int)) = true := by simp; omega
        clear h hi
        generalize ((dg 256 m i : Nat) : Int) = A at *
        generalize ((dg 256 n i : Nat) : Int) = B at *
        go_upto_region 4 with fail
        go_quiet (fail)
        have ca1 : (wr.drewN nq).cell? ⟨w.heap.size, i, none⟩ = some (.int .i64 A) := ca
        have cb1 : (wr.drewN nq).cell? ⟨w.heap.size + 1, i, none⟩ = some (.int .i64 B) := cb
        have B1 := hide (below_drewN J.out.2.2 nq)
        generalize wr.drewN nq = wr1 at *
        clear ca cb J
        go_upto_region 5 with fail
        go_quiet (fail)
        go_wp2
        go_ret
        exact ⟨by rw [hz.out]; rfl, below_drewN B1.out _⟩
end
end Go.Proofs.YtofddbjnncgmlaaGreatDoor
