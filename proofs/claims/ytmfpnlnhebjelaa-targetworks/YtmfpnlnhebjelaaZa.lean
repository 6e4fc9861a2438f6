/- The contracts of the document's Compare and Not, and of wide.Not. -/
import Derived.Test.YtmfpnlnhebjelaaWk
namespace Go.Proofs.Ytmfpnlnhebjelaa
open Go.RowKit
open Go.Deep
theorem div_word_step (m i : Nat) : m / 18446744073709551616 ^ i = 18446744073709551616 * (m / 18446744073709551616 ^ (i + 1)) + wd m i := by
  unfold wd dg
  rw [Nat.pow_succ, ← Nat.div_div_eq_div_mul]
  exact (Nat.div_add_mod _ _).symm
theorem cmp_eq {m n i : Nat} (h : m / 18446744073709551616 ^ (i + 1) = n / 18446744073709551616 ^ (i + 1)) (e : wd m i = wd n i) : m / 18446744073709551616 ^ i = n / 18446744073709551616 ^ i := by
  rw [div_word_step, div_word_step n, h, e]
theorem cmp_lt {m n i : Nat} (h : m / 18446744073709551616 ^ (i + 1) = n / 18446744073709551616 ^ (i + 1)) (e : wd m i < wd n i) : m < n := by
  have h1 := div_word_step m i
  have h2 := div_word_step n i
  rw [h] at h1
  rcases Nat.lt_or_ge m n with h' | h'
  · exact h'
  · have := Nat.div_le_div_right (c := 18446744073709551616 ^ i) h'
    omega
theorem not_word (m i : Nat) (hm : m < M) (hi : i < 4) : wd (M - 1 - m) i = 18446744073709551615 - wd m i := by
  have h1 := add_word (M - 1 - m) m i
  rw [show M - 1 - m + m = M - 1 by omega] at h1
  have hP : 0 < 18446744073709551616 ^ i := Nat.pow_pos (by decide)
  have hall : ∀ k, k ≤ 4 → (M - 1) % 18446744073709551616 ^ k = 18446744073709551616 ^ k - 1 := by
    intro k hk
    have hk : k = 0 ∨ k = 1 ∨ k = 2 ∨ k = 3 ∨ k = 4 := by omega
    rcases hk with rfl | rfl | rfl | rfl | rfl <;> decide
  have hw : wd (M - 1) i = 18446744073709551615 := by
    have hi' : i = 0 ∨ i = 1 ∨ i = 2 ∨ i = 3 := by omega
    rcases hi' with rfl | rfl | rfl | rfl <;> decide
  have hc : cy (M - 1 - m) m i = 0 := by
    unfold cy
    apply Nat.div_eq_of_lt
    have e := Nat.add_mod (M - 1 - m) m (18446744073709551616 ^ i)
    rw [show M - 1 - m + m = M - 1 by omega, hall i (by omega)] at e
    have a1 := Nat.mod_lt (M - 1 - m) hP
    have a2 := Nat.mod_lt m hP
    generalize (M - 1 - m) % 18446744073709551616 ^ i = a at *
    generalize m % 18446744073709551616 ^ i = b at *
    generalize 18446744073709551616 ^ i = P at *
    rcases Nat.lt_or_ge (a + b) P with h | h
    · exact h
    · rw [Nat.mod_eq_sub_mod h, Nat.mod_eq_of_lt (by omega)] at e
      omega
  rw [hc, hw] at h1
  have b1 := wd_lt (M - 1 - m) i
  have b2 := wd_lt m i
  omega
section
set_option maxRecDepth 10000
set_option maxHeartbeats 2000000
theorem rcompare_any (m n : Nat) (hm : m < M) (hn : n < M) (w : World) : Calls Try.prog 55 #[.agg (wn m), .agg (wn n)] w fun e w' => e = .returned (.int .i64 (cmpZ m n)) ∧ Below w.heap.size w w' := by
  obtain ⟨e1, e2⟩ := blk2x w (.cells (wn m) 23) (.cells (wn n) 23)
  have J0 : Hid (Nd ((w.alloc (.cells (wn m) 23)).alloc (.cells (wn n) 23)) w.heap.size 23 4 (wd m) ∧ Nd ((w.alloc (.cells (wn m) 23)).alloc (.cells (wn n) 23)) (w.heap.size + 1) 23 4 (wd n) ∧ Below w.heap.size w ((w.alloc (.cells (wn m) 23)).alloc (.cells (wn n) 23))) := ⟨Nd.of_heap e1, Nd.of_heap e2, below2x w _ _⟩
  have H4 : Hid (m / 18446744073709551616 ^ 4 = n / 18446744073709551616 ^ 4) := by
    unfold Hid
    rw [← M_eq, Nat.div_eq_of_lt hm, Nat.div_eq_of_lt hn]
  clear e1 e2 hm hn
  go_enter Try.func55, Try.ntmps55
  go_wp2_with (first | refine wpList_boxA rfl _ rfl (wn m) rfl ?_ | refine wpList_boxA rfl _ rfl (wn n) rfl ?_)
  generalize (w.alloc (.cells (wn m) 23)).alloc (.cells (wn n) 23) = W0 at *
  go_loopw [5] (fun d wr => ∃ i : Nat, i ≤ 4 ∧ d = .int .i64 ((i : Int) - 1) ∧ Hid (Nd wr w.heap.size 23 4 (wd m) ∧ Nd wr (w.heap.size + 1) 23 4 (wd n) ∧ Below w.heap.size w wr) ∧ Hid (m / 18446744073709551616 ^ i = n / 18446744073709551616 ^ i)) (fun d _ => (1 + intOf d).toNat)
  case atStart => exact ⟨4, by omega, rfl, J0, H4⟩
  case round =>
    clear J0 H4
    obtain ⟨i, hi, rfl, J, H⟩ := hrel
    rcases i with _ | i
    · have h0 : ¬ (0 : Int) ≤ ((0 : Nat) : Int) - 1 := by omega
      have hz : Hid (cmpZ m n = 0) := by
        have := H.out
        simp at this
        unfold Hid
        simp [cmpZ, this]
      go_wp2
      go_ret
      exact ⟨by rw [hz.out]; rfl, J.out.2.2⟩
    · have e1 : ((i + 1 : Nat) : Int) - 1 = i := by omega
      have hi4 : (i : Int) < 4 := by omega
      have b0 : (0 : Int) ≤ i := by omega
      have ca := J.out.1.cell (show i < 4 by omega)
      have cb := J.out.2.1.cell (show i < 4 by omega)
      have hlt4 := hide (show i ≤ 4 by omega)
      rw [e1]
      rcases Nat.lt_trichotomy (wd m i) (wd n i) with h | h | h
      · have hz : Hid (cmpZ m n = -1) := by
          have := cmp_lt H.out h
          unfold Hid
          simp [cmpZ, this]
        have t1 : ((wd m i : Nat) : Int) < ((wd n i : Nat) : Int) := by omega
        clear h hi
        generalize ((wd m i : Nat) : Int) = A at *
        generalize ((wd n i : Nat) : Int) = B at *
        go_upto_region 4 with fail
        go_quiet (fail)
        go_wp2
        go_ret
        exact ⟨by rw [hz.out]; rfl, below_drewN J.out.2.2 _⟩
      · have H1 := hide (cmp_eq H.out h)
        rw [h] at ca
        clear h hi
        generalize hB : ((wd n i : Nat) : Int) = B at *
        clear hB
        go_upto_region 4 with fail
        go_quiet (fail)
        have J1 : Hid (Nd (wr.drewN nq) w.heap.size 23 4 (wd m) ∧ Nd (wr.drewN nq) (w.heap.size + 1) 23 4 (wd n) ∧ Below w.heap.size w (wr.drewN nq)) := ⟨J.out.1, J.out.2.1, below_drewN J.out.2.2 _⟩
        have ca1 : (wr.drewN nq).cell? ⟨w.heap.size, i, none⟩ = some (.int .u64 B) := ca
        have cb1 : (wr.drewN nq).cell? ⟨w.heap.size + 1, i, none⟩ = some (.int .u64 B) := cb
        generalize wr.drewN nq = wr1 at *
        clear ca cb J
        go_upto_region 6 with fail
        go_quiet (fail)
        go_wp2
        exact ⟨⟨i, hlt4.out, rfl, ⟨J1.out.1, J1.out.2.1, below_drewN J1.out.2.2 _⟩, H1⟩, by simp [intOf]; omega⟩
      · have hz : Hid (cmpZ m n = 1) := by
          have := cmp_lt H.out.symm h
          unfold Hid
          rw [cmpZ, if_neg (by omega), if_neg (by omega)]
        have t1 : ¬ ((wd m i : Nat) : Int) < ((wd n i : Nat) : Int) := by omega
        have t2 : ((wd n i : Nat) : Int) < ((wd m i : Nat) : Int) := by omega
        clear h hi
        generalize ((wd m i : Nat) : Int) = A at *
        generalize ((wd n i : Nat) : Int) = B at *
        go_upto_region 4 with fail
        go_quiet (fail)
        have ca1 : (wr.drewN nq).cell? ⟨w.heap.size, i, none⟩ = some (.int .u64 A) := ca
        have cb1 : (wr.drewN nq).cell? ⟨w.heap.size + 1, i, none⟩ = some (.int .u64 B) := cb
        have B1 := hide (below_drewN J.out.2.2 nq)
        generalize wr.drewN nq = wr1 at *
        clear ca cb J
        go_upto_region 6 with fail
        go_quiet (fail)
        go_wp2
        go_ret
        exact ⟨by rw [hz.out]; rfl, below_drewN B1.out _⟩
end
end Go.Proofs.Ytmfpnlnhebjelaa
