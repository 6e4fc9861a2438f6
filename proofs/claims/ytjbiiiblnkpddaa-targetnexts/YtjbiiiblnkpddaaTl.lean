/- The contracts of the document's Over and FromWords. -/
import Derived.Test.YtjbiiiblnkpddaaTk
import Derived.Test.YtjbiiiblnkpddaaTf
namespace Go.Proofs.Ytjbiiiblnkpddaa
open Go.RowKit
open Go.Deep
/-- A quotient by a small number, digit by digit from the highest on. -/
theorem over_step (m n i : Nat) (hn : 0 < n) : (m / 256 ^ (i + 1) % n * 256 + dg 256 m i) / n = dg 256 (m / n) i ∧ (m / 256 ^ (i + 1) % n * 256 + dg 256 m i) % n = m / 256 ^ i % n := by
  have e := div_byte_step 256 m i
  have hd := dg_lt (B := 256) (by decide) m i
  have h1 := Nat.div_add_mod (m / 256 ^ (i + 1)) n
  have h2 := Nat.mod_lt (m / 256 ^ (i + 1)) hn
  have e3 : dg 256 (m / n) i = m / 256 ^ i / n % 256 := by
    unfold dg
    rw [Nat.div_div_eq_div_mul, Nat.div_div_eq_div_mul, Nat.mul_comm]
  rw [e3, e]
  generalize dg 256 m i = d at *
  generalize m / 256 ^ (i + 1) = T at *
  generalize T % n = r at *
  generalize T / n = q at *
  have e4 : 256 * T + d = n * (256 * q) + (r * 256 + d) := by
    rw [← h1, Nat.mul_add, Nat.mul_left_comm]
    omega
  rw [e4, Nat.mul_add_div hn]
  have h5 : (r * 256 + d) / n < 256 := by
    apply Nat.div_lt_of_lt_mul
    have := Nat.mul_le_mul_right 256 (show r + 1 ≤ n from h2)
    omega
  refine ⟨?_, (Nat.mul_add_mod _ _ _).symm⟩
  generalize (r * 256 + d) / n = c at *
  omega
/-- The digits from i on of one number, those below of another. -/
def hixd (x y i j : Nat) : Nat := if i ≤ j then dg 256 x j else dg 256 y j
theorem hixd_step (x y i j : Nat) : (if j = i then dg 256 x i else hixd x y (i + 1) j) = hixd x y i j := by
  unfold hixd
  by_cases e : j = i
  · rw [if_pos e, if_pos (by omega), e]
  · rw [if_neg e]
    by_cases e2 : i + 1 ≤ j
    · rw [if_pos e2, if_pos (by omega)]
    · rw [if_neg e2, if_neg (by omega)]
section
set_option maxRecDepth 10000
set_option maxHeartbeats 2000000
theorem over_any (m n : Nat) (hm : m < MB) (h0 : 0 < n) (hn : n ≤ 1000000) (w : World) : Calls Try.prog 42 #[.agg (bn m), .int .i64 (n : Int)] w fun e w' => e = .returned (.agg (bn (m / n))) ∧ Below w.heap.size w w' := by
  have J0 := hide ((Bi.start w m).congr (f' := hixd (m / n) m 40) (fun j hj => by rw [hixd, if_neg (by omega)]))
  have HN := hide (And.intro h0 hn)
  have H40 : Hid (m / 256 ^ 40 % n = 0) := by
    show m / MB % n = 0
    rw [Nat.div_eq_of_lt hm, Nat.zero_mod]
  have n0 : ((n : Int) == 0) = false := by simp; omega
  have n1 : ¬ (n : Int) = 0 := by omega
  clear hm h0 hn
  go_enter Try.func42, Try.ntmps42
  go_wp2_with (first | refine wpList_boxA rfl _ rfl (bn m) rfl ?_ | refine wpList_allocA AN rfl rfl ?_)
  generalize (w.alloc (.cells (bn m) 30)).alloc (.cells (bn 0) 30) = W0 at *
  go_loopw [5, 6] (fun c d wr => ∃ i : Nat, i ≤ 40 ∧ c = .int .i64 ((m / 256 ^ i % n : Nat) : Int) ∧ d = .int .i64 ((i : Int) - 1) ∧ Hid (Bi w wr (hixd (m / n) m i))) (fun _ d _ => (1 + intOf d).toNat)
  case atStart => exact ⟨40, by omega, by rw [H40.out]; rfl, rfl, J0⟩
  case round =>
    clear J0 H40
    obtain ⟨i, hi, rfl, rfl, J⟩ := hrel
    rcases i with _ | i
    · have hneg : ¬ (0 : Int) ≤ ((0 : Nat) : Int) - 1 := by omega
      have H2 := (J.out.a.congr (f' := dg 256 (m / n)) (fun j _ => by rw [hixd, if_pos (by omega)])).heap
      generalize m / 256 ^ 0 % n = c at *
      go_wp2_with (first | refine wpList_loadA AN rfl _ rfl _ rfl (bn (m / n)) (bn_size _) 30 H2 ?_ | refine wpList_storeA AN rfl _ _ rfl _ (bn (m / n)) (bn_size _) (bn_one _) rfl rfl (bn 0) (bn_size 0) 30 J.out.r ?_)
      exact bodyPost_ret (v := .agg (bn (m / n))) (resA AN Try.results42 _ _ (w.heap.size + 1) 30 (bn (m / n)) (bn_size _) rfl (setRow_heap _ _ _ _ _ _ J.out.r)) rfl ⟨rfl, below_setRow J.out.bel (by omega) _⟩
    · have e1 : ((i + 1 : Nat) : Int) - 1 = i := by omega
      rw [e1]
      have hi4 : (i : Int) < 40 := by omega
      have i0 : (0 : Int) ≤ i := by omega
      have ca := J.out.a.cell (show i < 40 by omega)
      rw [show hixd (m / n) m (i + 1) i = dg 256 m i by rw [hixd, if_neg (by omega)]] at ca
      have fa := J.out.a.fz i
      have HI := hide (show i ≤ 40 by omega)
      have hiw : IntKind.i64.wrap ((i : Int) - 1) = i - 1 := wrapI _ (by omega) (by omega)
      have ME := hide (show (1 + ((i : Int) - 1)).toNat < (1 + (i : Int)).toNat by omega)
      obtain ⟨hn0, hn⟩ := HN.out
      obtain ⟨t1, t2⟩ := over_step m n i hn0
      have hd := dg_lt (B := 256) (by decide) m i
      have hr := Nat.mod_lt (m / 256 ^ (i + 1)) hn0
      have hx := dg_lt (B := 256) (by decide) (m / n) i
      have HR : Hid (∀ j, j < 40 → (if j = i then dg 256 (m / n) i else hixd (m / n) m (i + 1) j) = hixd (m / n) m i j) := fun j _ => hixd_step (m / n) m i j
      obtain ⟨x, hxe⟩ : ∃ x, x = dg 256 (m / n) i := ⟨_, rfl⟩
      rw [← hxe] at t1 hx HR
      obtain ⟨d0, hd0⟩ : ∃ x, x = dg 256 m i := ⟨_, rfl⟩
      rw [← hd0] at t1 t2 hd ca
      obtain ⟨r1, hr1⟩ : ∃ x, x = m / 256 ^ i % n := ⟨_, rfl⟩
      rw [← hr1] at t2
      have HR1 := hide hr1
      generalize m / 256 ^ (i + 1) % n = r0 at *
      clear hxe hd0 hr1 e1 hi
      have w1 : IntKind.i64.wrap ((r0 : Int) * 256) = ((r0 * 256 : Nat) : Int) := by rw [wrapI _ (by omega) (by omega)]; omega
      have w2 : IntKind.i64.wrap (((r0 * 256 : Nat) : Int) + (d0 : Int)) = ((r0 * 256 + d0 : Nat) : Int) := by rw [wrapI _ (by omega) (by omega)]; omega
      obtain ⟨s, hs⟩ : ∃ s, s = r0 * 256 + d0 := ⟨_, rfl⟩
      rw [← hs] at w2 t1 t2
      obtain ⟨p, hp⟩ : ∃ p, p = r0 * 256 := ⟨_, rfl⟩
      rw [← hp] at w1 w2
      have hr1l : r1 < n := by rw [← t2]; exact Nat.mod_lt _ hn0
      have v6 : IntKind.i64.wrap (r1 : Int) = (r1 : Int) := wrapI _ (by omega) (by omega)
      have v8 : IntKind.i64.wrap (x : Int) = (x : Int) := wrapI _ (by omega) (by omega)
      have q1 : r1 < 9223372036854775808 := by omega
      have q2 : x < 9223372036854775808 := by omega
      have v1 : (s : Int) % (n : Int) = (r1 : Int) := by rw [← t2]; rfl
      have v3 : (s : Int) / (n : Int) = (x : Int) := by rw [← t1]; rfl
      have v2 : Int.tmod (s : Int) (n : Int) = (r1 : Int) := by rw [Int.tmod_eq_emod_of_nonneg (Int.natCast_nonneg _)]; exact v1
      have v4 : Int.tdiv (s : Int) (n : Int) = (x : Int) := by rw [Int.tdiv_eq_ediv_of_nonneg (Int.natCast_nonneg _)]; exact v3
      have v5 := w64n r1 q1
      have v7 := w64n x q2
      clear hn0 hn hd hr hx t1 t2 hs hp hr1l q1 q2
      go_wp2
      exact ⟨⟨i, HI.out, by rw [← HR1.out], rfl, hide (J.out.set i x HR.out)⟩, by simpa [intOf] using ME.out⟩
/-- A byte of a number, out of its word. -/
theorem dg8 (m i : Nat) : wd m (i / 8) / 2 ^ (8 * (i % 8)) % 256 = dg 256 m i := by
  unfold wd dg
  have e : 256 ^ i = 18446744073709551616 ^ (i / 8) * 2 ^ (8 * (i % 8)) := by
    rw [show (18446744073709551616 : Nat) = 2 ^ 64 from rfl, show (256 : Nat) = 2 ^ 8 from rfl, ← Nat.pow_mul, ← Nat.pow_mul, ← Nat.pow_add]
    congr 1
    omega
  rw [e, ← Nat.div_div_eq_div_mul]
  generalize m / 18446744073709551616 ^ (i / 8) = X
  have h8 : (18446744073709551616 : Nat) = 2 ^ (8 * (i % 8)) * (256 * 2 ^ (56 - 8 * (i % 8))) := by
    rw [show (256 : Nat) = 2 ^ 8 from rfl, ← Nat.pow_add, ← Nat.pow_add, show 8 * (i % 8) + (8 + (56 - 8 * (i % 8))) = 64 by omega]
  rw [h8, Nat.mod_mul_right_div_self, Nat.mod_mul_right_mod]
end
end Go.Proofs.Ytjbiiiblnkpddaa
