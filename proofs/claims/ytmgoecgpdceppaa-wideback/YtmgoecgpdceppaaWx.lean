/- The contracts of the document's Right and Left. -/
import Derived.Test.YtmgoecgpdceppaaWt
namespace Go.Proofs.Ytmgoecgpdceppaa
open Go.RowKit
open Go.Deep
theorem mod_bit (X d : Nat) : X % 2 ^ (d + 1) = X % 2 ^ d + if X.testBit d then 2 ^ d else 0 := by
  rw [mod_next, dg, Nat.testBit_eq_decide_div_mod_eq]
  have h := Nat.mod_lt (X / 2 ^ d) (show 0 < 2 by decide)
  by_cases e : X / 2 ^ d % 2 = 1
  · simp [e]
  · have e' : X / 2 ^ d % 2 = 0 := by omega
    simp [e']
theorem put_word (O d : Nat) (h : O < 2 ^ d) : IntKind.u64.wrap (((wd O (d / 64) : Nat) : Int) + ((2 ^ (d % 64) : Nat) : Int)) = ((wd O (d / 64) + 2 ^ (d % 64) : Nat) : Int) := by
  have := (wd_put O d (small_bit O d d h (Nat.le_refl _))).2.1
  rw [← Int.natCast_add]
  generalize wd O (d / 64) + 2 ^ (d % 64) = p at *
  exact wrapu _ (by omega) (by omega)
theorem one_shl (r : Nat) (h : r < 64) : IntKind.u64.wrap ((2 : Int) ^ r) = ((2 ^ r : Nat) : Int) := by
  have h1 : 2 ^ r < 2 ^ 64 := Nat.pow_lt_pow_right (by decide) h
  rw [show ((2 : Int) ^ r) = ((2 ^ r : Nat) : Int) by simp]
  generalize 2 ^ r = p at *
  exact wrapu _ (by omega) (by omega)
section
set_option maxRecDepth 10000
set_option maxHeartbeats 2000000
theorem rright_any (m n : Nat) (hm : m < M) (hn : n ≤ 9223372036854775807) (w : World) : Calls Try.prog 31 #[.agg (wn m), .int .i64 (n : Int)] w fun e w' => e = .returned (.agg (wn (m / 2 ^ n))) ∧ Below w.heap.size w w' := by
  have J0 : Hid (Up w (((w.alloc (.cells (wn m) 23)).alloc (.cells (wn 0) 23)).alloc (.cells (wn 0) 23)) 23 m (wd (m / 2 ^ n % 2 ^ (n - n)))) := (Up.start w 23 m).congr (fun i _ => by rw [Nat.sub_self, Nat.pow_zero, Nat.mod_one])
  have HE : Hid (∀ i, n ≤ i → 256 ≤ i → m / 2 ^ n % 2 ^ (i - n) = m / 2 ^ n) := fun i h1 h2 => by
    apply Nat.mod_eq_of_lt
    rw [Nat.div_lt_iff_lt_mul (Nat.two_pow_pos n), ← Nat.pow_add, show i - n + n = i by omega]
    rw [M_pow] at hm
    exact Nat.lt_of_lt_of_le hm (Nat.pow_le_pow_right (by decide) h2)
  have HM := hide hn
  clear hm hn
  go_enter Try.func31, Try.ntmps31
  go_wp2_with (first | refine wpList_boxA rfl _ rfl (wn m) rfl ?_ | refine wpList_allocA AR rfl rfl ?_ | refine wpList_buildA AR rfl rfl ?_ | refine wpList_store_newA AR rfl _ _ rfl _ rfl (wn 0) (wn_size _) (wn_one _) rfl rfl ?_)
  generalize ((w.alloc (.cells (wn m) 23)).alloc (.cells (wn 0) 23)).alloc (.cells (wn 0) 23) = W0 at *
  go_loopw [6] (fun d wr => ∃ i : Nat, n ≤ i ∧ (i ≤ 256 ∨ i = n) ∧ d = .int .i64 i ∧ Hid (Up w wr 23 m (wd (m / 2 ^ n % 2 ^ (i - n))))) (fun d _ => (256 - intOf d).toNat)
  case atStart => exact ⟨n, Nat.le_refl _, .inr rfl, rfl, J0⟩
  case round =>
    clear J0
    obtain ⟨i, hni, hi, rfl, J⟩ := hrel
    by_cases hlt : i < 256
    · have hi4 : (i : Int) < 256 := by omega
      have i0 : (0 : Int) ≤ i := by omega
      have hiw : IntKind.i64.wrap ((i : Int) + 1) = i + 1 := wrapI _ (by omega) (by omega)
      have a0 := hide J.out.a.heap
      have HB := hide fun W => rbit_in m i hlt W
      obtain ⟨d, hd⟩ : ∃ d, d = i - n := ⟨_, rfl⟩
      have hd1 : i + 1 - n = d + 1 := by omega
      have hmb := mod_bit (m / 2 ^ n) d
      rw [Nat.testBit_div_two_pow, show d + n = i by omega] at hmb
      have hOl : m / 2 ^ n % 2 ^ d < 2 ^ d := Nat.mod_lt _ (Nat.two_pow_pos d)
      have HO : Hid (m / 2 ^ n % 2 ^ (i + 1 - n) = m / 2 ^ n % 2 ^ d + if m.testBit i = true then 2 ^ d else 0) := by unfold Hid; rw [hd1]; exact hmb
      rw [← hd] at J
      clear hmb hd1
      generalize m / 2 ^ n % 2 ^ d = O at *
      have QQ := hide (And.intro hni hlt)
      cases hbt : m.testBit i with
      | true =>
        rw [hbt] at HB HO
        rw [if_pos rfl] at HO
        have hp := wd_put O d (small_bit O d d hOl (Nat.le_refl _))
        have hsum := put_word O d hOl
        have hshl := one_shl (d % 64) (by omega)
        have s1 : IntKind.i64.wrap ((i : Int) - n) = d := by rw [wrapI _ (by omega) (by omega)]; omega
        have d1 : (d : Int) / 64 = ((d / 64 : Nat) : Int) := by omega
        have d2 : (d : Int) % 64 = ((d % 64 : Nat) : Int) := by omega
        have hd0 : (0 : Int) ≤ d := by omega
        have hq4 : ((d / 64 : Nat) : Int) < 4 := by omega
        have hq0 : (0 : Int) ≤ ((d / 64 : Nat) : Int) := by omega
        have hr6 : ((d % 64 : Nat) : Int) ≤ 64 := by omega
        have hr0 : (0 : Int) ≤ ((d % 64 : Nat) : Int) := by omega
        have HP : Hid (∀ j, (if j = d / 64 then wd O (d / 64) + 2 ^ (d % 64) else wd O j) = wd (O + 2 ^ d) j) := fun j => (hp.2.2 j).symm
        have Q4 := hide (show d / 64 < 4 by omega)
        clear hp hd hni hi hlt hbt hOl
        generalize hq : d / 64 = q at *
        generalize hr : d % 64 = r at *
        clear hq hr
        obtain ⟨s, hs⟩ : ∃ s, s = wd O q + 2 ^ r := ⟨_, rfl⟩
        rw [← hs] at hsum HP
        obtain ⟨p, hpw⟩ : ∃ p, p = 2 ^ r := ⟨_, rfl⟩
        rw [← hpw] at hsum hshl
        clear hs hpw
        go_upto_region 6 with (first | refine wpList_loadA AR rfl _ rfl _ rfl (wn m) (wn_size _) 23 a0.out ?_ | (go_at_call 27; refine (HB.out _).mono ?_; rintro e w3 ⟨rfl, b3⟩; have J3 := hide (J.out.next b3); clear b3))
        have cq := J3.out.o.cell Q4.out
        have fq := J3.out.o.fz q
        clear J a0
        go_region
        go_wp2
        have L4 := QQ.out
        exact ⟨⟨i + 1, by omega, by omega, by go_num, hide (by rw [HO.out]; exact (J3.out.drew.set q s).congr (fun j _ => HP.out j))⟩, by simp [intOf]; omega⟩
      | false =>
        rw [hbt] at HB HO
        rw [if_neg (by decide), Nat.add_zero] at HO
        clear hd hni hi hlt hbt hOl
        go_wp2_with (first | refine wpList_loadA AR rfl _ rfl _ rfl (wn m) (wn_size _) 23 a0.out ?_ | (go_at_call 27; refine (HB.out _).mono ?_; rintro e w3 ⟨rfl, b3⟩; have J3 := hide (J.out.next b3); clear b3))
        have L4 := QQ.out
        exact ⟨⟨i + 1, by omega, by omega, by go_num, hide (by rw [HO.out]; exact J3.out)⟩, by simp [intOf]; omega⟩
    · have hge : ¬ (i : Int) < 256 := by omega
      have H2 := J.out.o.heap
      rw [HE.out i hni (by omega)] at H2
      clear hi hni hlt
      go_wp2_with (first | refine wpList_loadA AR rfl _ rfl _ rfl (wn (m / 2 ^ n)) (wn_size _) 23 H2 ?_ | refine wpList_storeA AR rfl _ _ rfl _ (wn (m / 2 ^ n)) (wn_size _) (wn_one _) rfl rfl (wn 0) (wn_size 0) 23 J.out.r ?_)
      exact bodyPost_ret (v := .agg (wn (m / 2 ^ n))) (resA AR Try.results31 _ _ (w.heap.size + 1) 23 (wn (m / 2 ^ n)) (wn_size _) rfl (setRow_heap _ _ _ _ _ _ J.out.r)) rfl ⟨rfl, below_setRow J.out.bel (by omega) _⟩
end
/-- A number without its bits from i on, times a power of 2. -/
def ls (m n i : Nat) : Nat := m % 2 ^ i * 2 ^ n
theorem ls_zero (m n : Nat) : ls m n 0 = 0 := by simp [ls, Nat.mod_one]
theorem ls_end (m n : Nat) (hm : m < M) : ls m n 256 = m * 2 ^ n := by rw [ls, ← M_pow, Nat.mod_eq_of_lt hm]
theorem ls_step (m n i : Nat) : ls m n (i + 1) = ls m n i + if m.testBit i then 2 ^ (i + n) else 0 := by
  unfold ls
  rw [mod_bit, Nat.add_mul]
  congr 1
  split
  · rw [Nat.pow_add]
  · simp
theorem ls_lt (m n i : Nat) : ls m n i < 2 ^ (i + n) := by
  rw [ls, Nat.pow_add]
  exact Nat.mul_lt_mul_of_pos_right (Nat.mod_lt _ (Nat.two_pow_pos i)) (Nat.two_pow_pos n)
theorem ls_low (m n i : Nat) (h : i + n ≤ 256) : decide (M ≤ ls m n i) = false := by
  have h1 := ls_lt m n i
  have h2 : 2 ^ (i + n) ≤ 2 ^ 256 := Nat.pow_le_pow_right (by decide) h
  rw [← M_pow] at h2
  simp
  omega
theorem ls_high (m n i : Nat) (h : 256 ≤ i + n) (hb : m.testBit i = true) : decide (M ≤ ls m n (i + 1)) = true ∧ ∀ j, j < 4 → wd (ls m n i) j = wd (ls m n (i + 1)) j := by
  rw [ls_step, if_pos hb]
  have e : 2 ^ (i + n) = M * 2 ^ (i + n - 256) := by rw [M_pow, ← Nat.pow_add, show 256 + (i + n - 256) = i + n by omega]
  have hp := Nat.two_pow_pos (i + n - 256)
  have h1 : M * 1 ≤ M * 2 ^ (i + n - 256) := Nat.mul_le_mul_left _ hp
  rw [e]
  refine ⟨by simp; omega, fun j hj => ?_⟩
  rw [← wd_mod (_ + _) j hj, Nat.add_mul_mod_self_left, wd_mod _ j hj]
section
set_option maxRecDepth 10000
set_option maxHeartbeats 2000000
theorem rleft_low (m n : Nat) (hm : m < M) (hn : n < 256) (w : World) : Calls Try.prog 30 #[.agg (wn m), .int .i64 (n : Int)] w fun e w' => e = .returned (.tuple #[.agg (wn (m * 2 ^ n)), .bool (decide (M ≤ m * 2 ^ n))]) ∧ Below w.heap.size w w' := by
  have J0 : Hid (Up w (((w.alloc (.cells (wn m) 23)).alloc (.cells (wn 0) 23)).alloc (.cells (wn 0) 23)) 23 m (wd (ls m n 0))) := (Up.start w 23 m).congr (fun i _ => by rw [ls_zero])
  have HL0 : Hid (false = decide (M ≤ ls m n 0)) := (ls_low m n 0 (by omega)).symm
  have HN := hide hn
  have hn2 : ¬ (256 : Int) ≤ n := by omega
  rw [← ls_end m n hm]
  clear hm hn
  go_enter Try.func30, Try.ntmps30
  go_wp2_with (first | refine wpList_boxA rfl _ rfl (wn m) rfl ?_ | refine wpList_allocA AR rfl rfl ?_ | refine wpList_buildA AR rfl rfl ?_ | refine wpList_store_newA AR rfl _ _ rfl _ rfl (wn 0) (wn_size _) (wn_one _) rfl rfl ?_)
  generalize ((w.alloc (.cells (wn m) 23)).alloc (.cells (wn 0) 23)).alloc (.cells (wn 0) 23) = W0 at *
  go_loopw [7, 8] (fun l d wr => ∃ i : Nat, i ≤ 256 ∧ l = .bool (decide (M ≤ ls m n i)) ∧ d = .int .i64 i ∧ Hid (Up w wr 23 m (wd (ls m n i)))) (fun _ d _ => (256 - intOf d).toNat)
  case atStart => exact ⟨0, by omega, by rw [← HL0.out], rfl, J0⟩
  case round =>
    clear J0 HL0
    obtain ⟨i, hi, rfl, rfl, J⟩ := hrel
    by_cases hlt : i < 256
    · have hi4 : (i : Int) < 256 := by omega
      have i0 : (0 : Int) ≤ i := by omega
      have hiw : IntKind.i64.wrap ((i : Int) + 1) = i + 1 := wrapI _ (by omega) (by omega)
      have a0 := hide J.out.a.heap
      have HB := hide fun W => rbit_in m i hlt W
      have QQ := hide hlt
      have hn3 := HN.out
      obtain ⟨d, hd⟩ : ∃ d, d = i + n := ⟨_, rfl⟩
      have s1 : IntKind.i64.wrap ((i : Int) + n) = d := by rw [wrapI _ (by omega) (by omega)]; omega
      cases hbt : m.testBit i with
      | false =>
        have HS : Hid (ls m n (i + 1) = ls m n i) := by unfold Hid; rw [ls_step, hbt]; simp
        rw [hbt] at HB
        clear hbt hlt hi hd hn3
        generalize hlo : decide (M ≤ ls m n i) = lo at *
        have HLO := hide hlo
        clear hlo
        go_wp2_with (first | refine wpList_loadA AR rfl _ rfl _ rfl (wn m) (wn_size _) 23 a0.out ?_ | (go_at_call 27; refine (HB.out _).mono ?_; rintro e w3 ⟨rfl, b3⟩; have J3 := hide (J.out.next b3); clear b3))
        have L4 := QQ.out
        exact ⟨⟨i + 1, by omega, by rw [HS.out, HLO.out], by go_num, hide (by rw [HS.out]; exact J3.out)⟩, by simp [intOf]; omega⟩
      | true =>
        rw [hbt] at HB
        by_cases hge : 256 ≤ d
        · have hge' : (256 : Int) ≤ d := by omega
          have HH := hide (ls_high m n i (by omega) hbt)
          clear hbt hlt hi hd hn3 hge
          generalize decide (M ≤ ls m n i) = lo at *
          go_wp2_with (first | refine wpList_loadA AR rfl _ rfl _ rfl (wn m) (wn_size _) 23 a0.out ?_ | (go_at_call 27; refine (HB.out _).mono ?_; rintro e w3 ⟨rfl, b3⟩; have J3 := hide (J.out.next b3); clear b3))
          have L4 := QQ.out
          exact ⟨⟨i + 1, by omega, by rw [HH.out.1], by go_num, hide (J3.out.congr HH.out.2)⟩, by simp [intOf]; omega⟩
        · have hge' : ¬ (256 : Int) ≤ d := by omega
          have HO : Hid (ls m n (i + 1) = ls m n i + 2 ^ d ∧ decide (M ≤ ls m n i) = decide (M ≤ ls m n (i + 1))) := ⟨by rw [ls_step, if_pos hbt, hd], by rw [ls_low m n i (by omega), ls_low m n (i + 1) (by omega)]⟩
          have hOl : ls m n i < 2 ^ d := by rw [hd]; exact ls_lt m n i
          have hp := wd_put (ls m n i) d (small_bit _ d d hOl (Nat.le_refl _))
          have hsum := put_word (ls m n i) d hOl
          have hshl := one_shl (d % 64) (by omega)
          have d1 : (d : Int) / 64 = ((d / 64 : Nat) : Int) := by omega
          have d2 : (d : Int) % 64 = ((d % 64 : Nat) : Int) := by omega
          have hd0 : (0 : Int) ≤ d := by omega
          have hq4 : ((d / 64 : Nat) : Int) < 4 := by omega
          have hq0 : (0 : Int) ≤ ((d / 64 : Nat) : Int) := by omega
          have hr6 : ((d % 64 : Nat) : Int) ≤ 64 := by omega
          have hr0 : (0 : Int) ≤ ((d % 64 : Nat) : Int) := by omega
          have HP : Hid (∀ j, (if j = d / 64 then wd (ls m n i) (d / 64) + 2 ^ (d % 64) else wd (ls m n i) j) = wd (ls m n (i + 1)) j) := fun j => by rw [HO.out.1]; exact (hp.2.2 j).symm
          have Q4 := hide (show d / 64 < 4 by omega)
          clear hp hd hi hlt hbt hOl hn3 hge
          generalize hq : d / 64 = q at *
          generalize hr : d % 64 = r at *
          clear hq hr
          generalize hlo : decide (M ≤ ls m n i) = lo at *
          clear hlo
          generalize ls m n i = O at *
          obtain ⟨s, hs⟩ : ∃ s, s = wd O q + 2 ^ r := ⟨_, rfl⟩
          rw [← hs] at hsum HP
          obtain ⟨p, hpw⟩ : ∃ p, p = 2 ^ r := ⟨_, rfl⟩
          rw [← hpw] at hsum hshl
          clear hs hpw
          go_upto_region 10 with (first | refine wpList_loadA AR rfl _ rfl _ rfl (wn m) (wn_size _) 23 a0.out ?_ | (go_at_call 27; refine (HB.out _).mono ?_; rintro e w3 ⟨rfl, b3⟩; have J3 := hide (J.out.next b3); clear b3))
          have cq := J3.out.o.cell Q4.out
          have fq := J3.out.o.fz q
          clear J a0
          go_region
          go_wp2
          have L4 := QQ.out
          exact ⟨⟨i + 1, by omega, by rw [HO.out.2], by go_num, hide ((J3.out.drew.set q s).congr (fun j _ => HP.out j))⟩, by simp [intOf]; omega⟩
    · have hke : i = 256 := by omega
      subst hke
      have H2 := J.out.o.heap
      have hge : ¬ ((256 : Nat) : Int) < 256 := by omega
      generalize hlo : decide (M ≤ ls m n 256) = lo at *
      have HLO := hide hlo
      clear hlo
      go_wp2_with (first | refine wpList_loadA AR rfl _ rfl _ rfl (wn (ls m n 256)) (wn_size _) 23 H2 ?_ | refine wpList_storeA AR rfl _ _ rfl _ (wn (ls m n 256)) (wn_size _) (wn_one _) rfl rfl (wn 0) (wn_size 0) 23 J.out.r ?_)
      exact bodyPost_ret (v := .tuple #[.agg (wn (ls m n 256)), .bool lo]) (resA2 AR Try.results30 _ _ (w.heap.size + 1) 23 (wn (ls m n 256)) (wn_size _) rfl (setRow_heap _ _ _ _ _ _ J.out.r) _ (by rfl)) rfl ⟨by rw [HLO.out], below_setRow J.out.bel (by omega) _⟩
end
end Go.Proofs.Ytmgoecgpdceppaa
