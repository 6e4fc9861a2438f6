/- The contracts of wide.divLong and wide.Div. -/
import Derived.Test.YtmfpnlnhebjelaaZb
import Derived.Test.YtmfpnlnhebjelaaWu
import Derived.Test.YtmfpnlnhebjelaaWk
namespace Go.Proofs.Ytmfpnlnhebjelaa
open Go.RowKit
open Go.Deep
theorem hsz (w : World) (o : Obj) : (w.alloc o).heap.size = w.heap.size + 1 := by simp
/-- What is known in the loop of a long division, J bits behind. -/
structure Lq (m n J cur q : Nat) : Prop where
  eq : m = q * n + cur
  lt : cur < n * 2 ^ J
  dv : q % 2 ^ J = 0
  up : ∀ k, J = k + 1 → n * 2 ^ k < M
theorem Lq.start (m n : Nat) (hm : m < M) (h0 : 0 < n) : Lq m n ((bl m : Int) - (bl n : Int) + 1).toNat m 0 := by
  have a1 := bl_lt m
  have a2 := bl_le n h0
  have a3 := bl_lt n
  have a4 := bl_pos n h0
  refine ⟨by simp, ?_, Nat.zero_mod _, fun k hk => ?_⟩
  · rcases Nat.lt_or_ge (bl m) (bl n) with h | h
    · rw [show ((bl m : Int) - (bl n : Int) + 1).toNat = 0 by omega, Nat.pow_zero, Nat.mul_one]
      have : 2 ^ bl m ≤ 2 ^ (bl n - 1) := Nat.pow_le_pow_right (by decide) (by omega)
      omega
    · rw [show ((bl m : Int) - (bl n : Int) + 1).toNat = bl m - bl n + 1 by omega]
      have e : 2 ^ bl m = 2 ^ (bl n - 1) * 2 ^ (bl m - bl n + 1) := by rw [← Nat.pow_add]; congr 1; omega
      have := Nat.mul_le_mul_right (2 ^ (bl m - bl n + 1)) a2
      omega
  · have e : 2 ^ bl m = 2 ^ bl n * 2 ^ k := by rw [← Nat.pow_add]; congr 1; omega
    have h1 := bl_le_of m 256 (by rw [← M_pow]; exact hm)
    have h2 : 2 ^ bl m ≤ 2 ^ 256 := Nat.pow_le_pow_right (by decide) h1
    have h3 := Nat.mul_lt_mul_of_pos_right a3 (Nat.two_pow_pos k)
    rw [M_pow]
    omega
theorem Lq.no {m n k cur q : Nat} (j : Lq m n (k + 1) cur q) (h : cur < n * 2 ^ k) : Lq m n k cur q := by
  refine ⟨j.eq, h, ?_, fun i hi => ?_⟩
  · have := j.dv
    rw [Nat.pow_succ] at this
    exact Nat.mod_eq_zero_of_dvd (Nat.dvd_trans (Nat.dvd_mul_right _ _) (Nat.dvd_of_mod_eq_zero this))
  · have h1 := j.up k rfl
    have : n * 2 ^ i ≤ n * 2 ^ k := Nat.mul_le_mul_left _ (Nat.pow_le_pow_right (by decide) (by omega))
    omega
theorem Lq.yes {m n k cur q : Nat} (j : Lq m n (k + 1) cur q) (h : ¬ cur < n * 2 ^ k) : Lq m n k (cur - n * 2 ^ k) (q + 2 ^ k) := by
  have e1 := j.eq
  have e2 := j.lt
  rw [Nat.pow_succ, ← Nat.mul_assoc] at e2
  refine ⟨?_, by omega, ?_, fun i hi => ?_⟩
  · rw [Nat.add_mul, Nat.mul_comm (2 ^ k) n]
    omega
  · have := j.dv
    rw [Nat.pow_succ] at this
    have h2 := Nat.dvd_trans (Nat.dvd_mul_right (2 ^ k) 2) (Nat.dvd_of_mod_eq_zero this)
    exact Nat.mod_eq_zero_of_dvd (Nat.dvd_add h2 (Nat.dvd_refl _))
  · have h1 := j.up k rfl
    have : n * 2 ^ i ≤ n * 2 ^ k := Nat.mul_le_mul_left _ (Nat.pow_le_pow_right (by decide) (by omega))
    omega
theorem Lq.bit {m n k cur q : Nat} (j : Lq m n (k + 1) cur q) : q.testBit k = false := by
  have := j.dv
  obtain ⟨c, hc⟩ := Nat.dvd_of_mod_eq_zero this
  rw [hc, Nat.testBit, Nat.shiftRight_eq_div_pow, Nat.pow_succ, Nat.mul_assoc, Nat.mul_div_cancel_left _ (Nat.two_pow_pos k)]
  simp [Nat.and_comm 1]
theorem Lq.fin {m n cur q : Nat} (j : Lq m n 0 cur q) : q = m / n ∧ cur = m % n := by
  have e := j.eq
  have l := j.lt
  rw [Nat.pow_zero, Nat.mul_one] at l
  subst e
  have h0 : 0 < n := by omega
  rw [Nat.mul_comm q n, Nat.mul_add_div h0, Nat.div_eq_of_lt l, Nat.mul_add_mod, Nat.mod_eq_of_lt l]
  simp
theorem Lq.le {m n J cur q : Nat} (j : Lq m n J cur q) : cur ≤ m ∧ (0 < n → q ≤ m) := by
  have e := j.eq
  refine ⟨by omega, fun h => ?_⟩
  have := Nat.le_mul_of_pos_right q h
  omega
/-- Five rows of a long division. -/
structure Dl (w W : World) (t : TypeId) (cur n q : Nat) : Prop where
  a : W.heap[w.heap.size]? = some (.cells (wn cur) t (0, 0))
  b : W.heap[w.heap.size + 1]? = some (.cells (wn n) t (0, 0))
  r : W.heap[w.heap.size + 1 + 1]? = some (.cells (wn 0) t (0, 0))
  s : W.heap[w.heap.size + 1 + 1 + 1]? = some (.cells (wn 0) t (0, 0))
  q : W.heap[w.heap.size + 1 + 1 + 1 + 1]? = some (.cells (wn q) t (0, 0))
  bel : Below w.heap.size w W
section
variable {w W W' : World} {t : TypeId} {cur n q : Nat}
theorem Dl.start (w : World) (t : TypeId) (m n : Nat) : Dl w (((((w.alloc (.cells (wn m) t)).alloc (.cells (wn n) t)).alloc (.cells (wn 0) t)).alloc (.cells (wn 0) t)).alloc (.cells (wn 0) t)) t m n 0 := by
  obtain ⟨e1, e2, e3, e4⟩ := blk4 w (.cells (wn m) t) (.cells (wn n) t) (.cells (wn 0) t) (.cells (wn 0) t)
  have b4 := below4 w (.cells (wn m) t) (.cells (wn n) t) (.cells (wn 0) t) (.cells (wn 0) t)
  have hs : ((((w.alloc (.cells (wn m) t)).alloc (.cells (wn n) t)).alloc (.cells (wn 0) t)).alloc (.cells (wn 0) t)).heap.size = w.heap.size + 1 + 1 + 1 + 1 := by simp
  have e5 := heap_alloc_last ((((w.alloc (.cells (wn m) t)).alloc (.cells (wn n) t)).alloc (.cells (wn 0) t)).alloc (.cells (wn 0) t)) (.cells (wn 0) t)
  rw [hs] at e5
  exact ⟨(Below.heap_alloc _ _ _ (lt_heap e1)).trans e1, (Below.heap_alloc _ _ _ (lt_heap e2)).trans e2, (Below.heap_alloc _ _ _ (lt_heap e3)).trans e3, (Below.heap_alloc _ _ _ (lt_heap e4)).trans e4, e5, b4.alloc (by simp; omega) _⟩
theorem Dl.next (j : Dl w W t cur n q) (h : Below W.heap.size W W') : Dl w W' t cur n q :=
  ⟨(h.block _ (lt_heap j.a)).trans j.a, (h.block _ (lt_heap j.b)).trans j.b, (h.block _ (lt_heap j.r)).trans j.r, (h.block _ (lt_heap j.s)).trans j.s, (h.block _ (lt_heap j.q)).trans j.q, below_next j.bel h⟩
theorem Dl.drew (j : Dl w W t cur n q) : Dl w W.drew t cur n q := ⟨j.a, j.b, j.r, j.s, j.q, j.bel.drew⟩
theorem Dl.alloc (j : Dl w W t cur n q) (o : Obj) : Dl w (W.alloc o) t cur n q := j.next ((Below.refl _ _).alloc (Nat.le_refl _) _)
theorem Dl.put (j : Dl w W t cur n q) (c p : Nat) : Dl w ((W.setRow w.heap.size (wn c)).setRow (w.heap.size + 1 + 1 + 1 + 1) (wn p)) t c n p :=
  ⟨(setRow_other _ _ _ _ (by omega)).trans (setRow_heap _ _ _ _ _ _ j.a), (setRow_other _ _ _ _ (by omega)).trans ((setRow_other _ _ _ _ (by omega)).trans j.b), (setRow_other _ _ _ _ (by omega)).trans ((setRow_other _ _ _ _ (by omega)).trans j.r), (setRow_other _ _ _ _ (by omega)).trans ((setRow_other _ _ _ _ (by omega)).trans j.s), setRow_heap _ _ _ _ _ _ ((setRow_other _ _ _ _ (by omega)).trans j.q), below_setRow (below_setRow j.bel (Nat.le_refl _) _) (by omega) _⟩
theorem Dl.lt (j : Dl w W t cur n q) : w.heap.size + 1 + 1 + 1 + 1 < W.heap.size := lt_heap j.q
theorem Dl.two (j : Dl w W t cur n q) (c d : Array Value) : ((W.setRow (w.heap.size + 1 + 1) c).setRow (w.heap.size + 1 + 1 + 1) d).heap[w.heap.size + 1 + 1]? = some (.cells c t (0, 0)) ∧ ((W.setRow (w.heap.size + 1 + 1) c).setRow (w.heap.size + 1 + 1 + 1) d).heap[w.heap.size + 1 + 1 + 1]? = some (.cells d t (0, 0)) ∧ Below w.heap.size w ((W.setRow (w.heap.size + 1 + 1) c).setRow (w.heap.size + 1 + 1 + 1) d) :=
  ⟨(setRow_other _ _ _ _ (by omega)).trans (setRow_heap _ _ _ _ _ _ j.r), setRow_heap _ _ _ _ _ _ ((setRow_other _ _ _ _ (by omega)).trans j.s), below_setRow (below_setRow j.bel (by omega) _) (by omega) _⟩
end
theorem wn_df (m n : Nat) (h : ¬ m < n) : wn (df m n) = wn (m - n) := by
  rw [← wn_mod (df m n), df, show m + M - n = m - n + M by omega, Nat.add_mod_right, wn_mod]
attribute [local go_sem ↓] ldW_eq svW_eq
section
set_option maxRecDepth 10000
set_option maxHeartbeats 4000000
theorem divLong_any (m n : Nat) (hm : m < M) (h0 : 0 < n) (hn : n < M) (w : World) : Calls Try.prog 52 #[.agg (wn m), .agg (wn n)] w fun e w' => e = .returned (.tuple #[.agg (wn (m / n)), .agg (wn (m % n))]) ∧ Below w.heap.size w w' := by
  have J0 := hide (Dl.start w 24 m n)
  have HB1 := hide fun W => bits_any m hm W
  have HB2 := hide fun W => bits_any n hn W
  have L0 := hide (Lq.start m n hm h0)
  have b1 := bl_le_of m 256 (by rw [← M_pow]; exact hm)
  have b2 := bl_le_of n 256 (by rw [← M_pow]; exact hn)
  have hw : IntKind.i64.wrap ((bl m : Int) - (bl n : Int)) = (bl m : Int) - (bl n : Int) := wrapI _ (by omega) (by omega)
  have b3 := bl_pos n h0
  have JB := hide (show -256 ≤ (bl m : Int) - (bl n : Int) ∧ (bl m : Int) - (bl n : Int) ≤ 255 by omega)
  have HM := hide (And.intro hm (And.intro h0 hn))
  clear hm h0 hn b1 b2 b3
  generalize hx : (bl m : Int) = bm at *
  generalize hy : (bl n : Int) = bn at *
  clear hx hy
  go_enter Try.func52, Try.ntmps52
  go_upto_region 2 with (first | refine wpList_boxA rfl _ rfl (wn m) rfl ?_ | refine wpList_boxA rfl _ rfl (wn n) rfl ?_ | refine wpList_allocA AW rfl rfl ?_)
  generalize ((((w.alloc (.cells (wn m) 24)).alloc (.cells (wn n) 24)).alloc (.cells (wn 0) 24)).alloc (.cells (wn 0) 24)).alloc (.cells (wn 0) 24) = W0 at *
  obtain ⟨I, hne, F, i0, hF0, hJ, hcl⟩ : ∃ (I : Type) (_ : Nonempty I) (F : I → World) (i0 : I), W0.drew = F i0 ∧ Hid (∀ i, Dl w (F i) 24 m n 0) ∧ Hid (∀ i W', Below (F i).heap.size (F i) W' → ∃ j, W' = F j) :=
    ⟨{W : World // Dl w W 24 m n 0}, ⟨⟨_, J0.out⟩⟩, Subtype.val, ⟨W0.drew, J0.out.drew⟩, rfl, fun i => i.2, fun i W' b => ⟨⟨W', i.2.next b⟩, rfl⟩⟩
  simp only [Act.put, List.setIfInBounds_toArray, List.set_cons_succ, List.set_cons_zero, hsz]
  refine wp_region_class_lit (by kernel_rfl) (by kernel_rfl) i0 hF0 ?_
  repeat (first | ((go_big_quiet_want; first | refine quiet_loadA AW _ (by rfl) _ (by rfl) (wn m) (wn_size _) 24 (fun W hC => by obtain ⟨i, rfl⟩ := hC; exact (hJ.out i).a) ?_ | refine quiet_loadA AW _ (by rfl) _ (by rfl) (wn n) (wn_size _) 24 (fun W hC => by obtain ⟨i, rfl⟩ := hC; exact (hJ.out i).b) ?_); go_big_quiet_on; simp only [Act.put, List.setIfInBounds_toArray, List.set_cons_succ, List.set_cons_zero]) | go_big_quiet_step ((go_at_call_of 48 (Value.agg (wn m)); exact class_of hcl.out (HB1.out _))) | go_big_quiet_step ((go_at_call_of 48 (Value.agg (wn n)); exact class_of hcl.out (HB2.out _))))
  refine wpQuiet_nil ?_
  rintro _ ⟨iq, rfl⟩
  have J1 := hide (hJ.out iq)
  clear hcl hF0 hJ J0 HB1 HB2
  generalize F iq = W1 at *
  generalize bm - bn = j0 at *
  go_wp2
  go_loopw [7, 8, 9, 10, 11] (fun d _ _ _ _ wr => ∃ (j : Int) (cur q : Nat), -256 ≤ j ∧ j ≤ 255 ∧ d = .int .i64 j ∧ Hid (Dl w wr 24 cur n q) ∧ Hid (Lq m n (j + 1).toNat cur q)) (fun d _ _ _ _ _ => (1 + intOf d).toNat)
  case atStart => exact ⟨j0, m, 0, JB.out.1, JB.out.2, rfl, J1, L0⟩
  case round =>
    clear J1 L0 JB
    obtain ⟨j, cur, q, hj1, hj2, rfl, J, L⟩ := hrel
    by_cases hneg : j < 0
    · have t1 : ¬ (0 : Int) ≤ j := by omega
      rw [show (j + 1).toNat = 0 by omega] at L
      have HF := hide L.out.fin
      clear L
      generalize hQ : q = Q at *
      generalize hR : cur = R at *
      clear hQ hR
      have l1 := ldW_row (W := wr.drew) J.out.a
      have l2 := ldW_row (W := wr.drew) J.out.q
      have s1 := svW_row (w := wr.drew) J.out.r Q
      have l3 := ldW_row (W := wr.drew.setRow (w.heap.size + 1 + 1) (wn Q)) (g := w.heap.size) ((setRow_other _ _ _ _ (by omega)).trans J.out.a)
      have s2 := svW_row (w := wr.drew.setRow (w.heap.size + 1 + 1) (wn Q)) ((setRow_other _ _ _ _ (by omega)).trans J.out.s) R
      go_upto_region 9 with fail
      go_region
      go_wp2
      exact bodyPost_ret (v := .tuple #[.agg (wn Q), .agg (wn R)]) (resAA AW Try.results52 _ _ (w.heap.size + 1 + 1) (w.heap.size + 1 + 1 + 1) 24 (wn Q) (wn R) (wn_size _) (wn_size _) rfl (J.out.drew.two _ _).1 rfl (J.out.drew.two _ _).2.1) rfl ⟨by rw [← HF.out.1, ← HF.out.2], (J.out.drew.two _ _).2.2⟩
    · obtain ⟨k, rfl⟩ := Int.eq_ofNat_of_zero_le (show 0 ≤ j by omega)
      have k0 : (0 : Int) ≤ k := by omega
      rw [show ((k : Int) + 1).toNat = k + 1 by omega] at L
      have hup := L.out.up k rfl
      have hcM : cur < M := Nat.lt_of_le_of_lt L.out.le.1 HM.out.1
      have HL := hide fun W => left_pos n k k HM.out.2.2 (by unfold sh; rw [if_neg (by omega), if_neg (by omega)]) (by omega) W
      have HS := hide fun W => wsub_any cur (n * 2 ^ k) hcM hup W
      have hkw : IntKind.i64.wrap ((k : Int) - 1) = k - 1 := wrapI _ (by omega) (by omega)
      have K1 := hide (show -256 ≤ (k : Int) - 1 ∧ (k : Int) - 1 ≤ 255 ∧ ((k : Int) - 1 + 1).toNat = k by omega)
      have KL := hide (show (1 + ((k : Int) - 1)).toNat < (1 + (k : Int)).toNat by omega)
      have LNo := hide fun h => L.out.no h
      have LYes := hide fun h => L.out.yes h
      have HW := hide fun W => withBit_any q k (by omega) L.out.bit W
      have HD := hide fun h => wn_df cur (n * 2 ^ k) h
      generalize decide (M ≤ n * 2 ^ k) = ov at *
      generalize n * 2 ^ k = P at *
      clear hneg hj1 hj2 hup hcM L
      have bb := hide J.out.b
      go_upto_region 6 with (first | refine wpList_loadA AW rfl _ rfl _ rfl (wn n) (wn_size _) 24 bb.out ?_ | (go_at_call 60; refine (HL.out _).mono ?_; rintro e w1 ⟨rfl, be⟩; have J1 := hide (J.out.next be); clear be) | refine wpList_allocA AW rfl rfl ?_ | refine wpList_store_newA AW rfl _ _ rfl _ rfl (wn P) (wn_size _) (wn_one _) rfl rfl ?_)
      have G1 := hide (heap_alloc_last w1 (.cells (wn P) 24))
      have J2 := hide (J1.out.alloc (.cells (wn P) 24))
      generalize w1.alloc (.cells (wn P) 24) = W2 at *
      generalize w1.heap.size = g at *
      clear J J1 bb HL
      have aa := hide J2.out.a
      by_cases hlt : cur < P
      · have L1 := hide (LNo.out hlt)
        rw [show decide (cur < P) = true by simp [hlt]] at HS
        clear LNo LYes HD HW hlt
        generalize df cur P = D at *
        go_wp2_with (first | refine wpList_loadA AW rfl _ rfl _ rfl (wn cur) (wn_size _) 24 aa.out ?_ | refine wpList_loadA AW rfl _ rfl _ rfl (wn P) (wn_size _) 24 G1.out ?_ | (go_at_call 61; refine (HS.out _).mono ?_; rintro e w3 ⟨rfl, be⟩; have J3 := hide (J2.out.next be); clear be) | refine wpList_allocA AW rfl rfl ?_ | refine wpList_store_newA AW rfl _ _ rfl _ rfl (wn D) (wn_size _) (wn_one _) rfl rfl ?_)
        exact ⟨⟨(k : Int) - 1, cur, q, K1.out.1, K1.out.2.1, rfl, hide (J3.out.alloc _), by rw [K1.out.2.2]; exact L1⟩, by simp [intOf]; omega⟩
      · have L1 := hide (LYes.out hlt)
        rw [show decide (cur < P) = false by simp [hlt], HD.out hlt] at HS
        clear LNo LYes HD hlt
        generalize cur - P = D at *
        generalize q + 2 ^ k = Q at *
        go_upto_region 8 with (first | refine wpList_loadA AW rfl _ rfl _ rfl (wn cur) (wn_size _) 24 aa.out ?_ | refine wpList_loadA AW rfl _ rfl _ rfl (wn P) (wn_size _) 24 G1.out ?_ | (go_at_call 61; refine (HS.out _).mono ?_; rintro e w3 ⟨rfl, be⟩; have J3 := hide (J2.out.next be); clear be) | refine wpList_allocA AW rfl rfl ?_ | refine wpList_store_newA AW rfl _ _ rfl _ rfl (wn D) (wn_size _) (wn_one _) rfl rfl ?_)
        have G3 := hide (heap_alloc_last w3 (.cells (wn D) 24))
        have J4 := hide (J3.out.alloc (.cells (wn D) 24))
        generalize w3.alloc (.cells (wn D) 24) = W4 at *
        generalize w3.heap.size = g3 at *
        clear J2 J3 G1 aa HS
        have l0 := ldW_row (W := W4.drew) G3.out
        have l1 := ldW_row (W := W4.drew) J4.out.q
        go_region_with (go_at_call 67; refine (HW.out _).mono ?_; rintro e w5 ⟨rfl, be⟩; have J5 := hide (J4.out.drew.next be); have l2 := ldW_row ((be.block _ (lt_heap G3.out)).trans G3.out); have s1 := svW_row J5.out.a D; have s2 := svW_row (w := w5.setRow w.heap.size (wn D)) ((setRow_other _ _ _ _ (by omega)).trans J5.out.q) Q; clear be)
        all_goals (go_wp2; exact ⟨⟨(k : Int) - 1, D, Q, K1.out.1, K1.out.2.1, rfl, hide (J5.out.put D Q), by rw [K1.out.2.2]; exact L1⟩, by simp [intOf]; omega⟩)
end
end Go.Proofs.Ytmfpnlnhebjelaa
