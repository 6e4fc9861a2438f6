/- The contracts of the document's Times and Over. -/
import Derived.Test.YtmfpnlnhebjelaaTe
namespace Go.Proofs.Ytmfpnlnhebjelaa
open Go.RowKit
open Go.Deep
/-- A number that is changed in its place, and an answer's place. -/
structure Bi (w W : World) (f : Nat → Nat) : Prop where
  a : Ni W w.heap.size 46 40 f
  r : W.heap[w.heap.size + 1]? = some (.cells (bn 0) 46 (0, 0))
  bel : Below w.heap.size w W
theorem Bi.start (w : World) (m : Nat) : Bi w ((w.alloc (.cells (bn m) 46)).alloc (.cells (bn 0) 46)) (dg 256 m) :=
  ⟨Ni.of_heap (blk2x w _ _).1, (blk2x w _ _).2, below2x w _ _⟩
section
variable {w W : World} {f : Nat → Nat}
theorem Bi.set (j : Bi w W f) (i x : Nat) {f' : Nat → Nat} (e : ∀ k, k < 40 → (if k = i then x else f k) = f' k) : Bi w (W.setCell ⟨w.heap.size, i, none⟩ (.int .i64 ((x : Nat) : Int))) f' :=
  ⟨(j.a.set i x).congr e, (Below.heap_setCell _ _ _ _ (by simp <;> omega)).trans j.r, j.bel.setCell (Nat.le_refl _) _⟩
theorem Bi.congr (j : Bi w W f) {f' : Nat → Nat} (e : ∀ k, k < 40 → f k = f' k) : Bi w W f' := ⟨j.a.congr e, j.r, j.bel⟩
end
theorem w64n (x : Nat) (h : x < 9223372036854775808) : wrap64 (x : Int) = (x : Int) := by
  unfold wrap64
  omega
/-- A product by a small number, digit by digit: the carry behind i digits. -/
def tc (m n i : Nat) : Nat := m % 256 ^ i * n / 256 ^ i
theorem tc_zero (m n : Nat) : tc m n 0 = 0 := by simp [tc, Nat.mod_one]
theorem tc_step (m n i : Nat) : (tc m n i + dg 256 m i * n) % 256 = dg 256 (m * n) i ∧ (tc m n i + dg 256 m i * n) / 256 = tc m n (i + 1) := by
  have hP : 0 < 256 ^ i := Nat.pow_pos (by decide)
  have e : (m % 256 ^ i + dg 256 m i * 256 ^ i) * n / 256 ^ i = tc m n i + dg 256 m i * n := by
    rw [Nat.add_mul, Nat.mul_right_comm, Nat.add_mul_div_right _ _ hP]
    rfl
  rw [← e, ← mod_next]
  constructor
  · have h1 : m % 256 ^ (i + 1) * n % 256 ^ (i + 1) = m * n % 256 ^ (i + 1) := Nat.mod_mul_mod ..
    rw [show m % 256 ^ (i + 1) * n / 256 ^ i % 256 = dg 256 (m % 256 ^ (i + 1) * n) i from rfl, ← dg_mod 256 (m % 256 ^ (i + 1) * n) (i + 1) i (by omega), h1, dg_mod 256 _ (i + 1) i (by omega)]
  · rw [Nat.div_div_eq_div_mul, ← Nat.pow_succ]
    rfl
theorem tc_le (m n i : Nat) : tc m n i ≤ n := by
  unfold tc
  have hP : 0 < 256 ^ i := Nat.pow_pos (by decide)
  have := Nat.mod_lt m hP
  apply Nat.div_le_of_le_mul
  exact Nat.mul_le_mul_right n (by omega)
/-- The digits below i of one number, those from i on of another. -/
def mixd (x y i j : Nat) : Nat := if j < i then dg 256 x j else dg 256 y j
theorem mixd_zero (x y j : Nat) : dg 256 y j = mixd x y 0 j := by rw [mixd, if_neg (by omega)]
theorem mixd_at (x y i : Nat) : mixd x y i i = dg 256 y i := by rw [mixd, if_neg (by omega)]
theorem mixd_step (x y i j : Nat) : (if j = i then dg 256 x i else mixd x y i j) = mixd x y (i + 1) j := by
  unfold mixd
  by_cases e : j = i
  · rw [if_pos e, if_pos (by omega), e]
  · rw [if_neg e]
    by_cases e2 : j < i
    · rw [if_pos e2, if_pos (by omega)]
    · rw [if_neg e2, if_neg (by omega)]
theorem mixd_end (x y j : Nat) (h : j < 40) : mixd x y 40 j = dg 256 x j := by rw [mixd, if_pos h]
section
set_option maxRecDepth 10000
set_option maxHeartbeats 2000000
theorem times_any (m n : Nat) (hn : n ≤ 1000000) (w : World) : Calls Try.prog 30 #[.agg (bn m), .int .i64 (n : Int)] w fun e w' => e = .returned (.agg (bn (m * n))) ∧ Below w.heap.size w w' := by
  have J0 := hide ((Bi.start w m).congr (fun j _ => mixd_zero (m * n) m j))
  have HN := hide hn
  clear hn
  go_enter Try.func30, Try.ntmps30
  go_wp2_with (first | refine wpList_boxA rfl _ rfl (bn m) rfl ?_ | refine wpList_allocA AN rfl rfl ?_)
  generalize (w.alloc (.cells (bn m) 46)).alloc (.cells (bn 0) 46) = W0 at *
  go_loopw [5, 6] (fun c d wr => ∃ i : Nat, i ≤ 40 ∧ c = .int .i64 ((tc m n i : Nat) : Int) ∧ d = .int .i64 i ∧ Hid (Bi w wr (mixd (m * n) m i))) (fun _ d _ => (40 - intOf d).toNat)
  case atStart => exact ⟨0, by omega, by rw [tc_zero]; rfl, rfl, J0⟩
  case round =>
    clear J0
    obtain ⟨i, hi, rfl, rfl, J⟩ := hrel
    by_cases hlt : i < 40
    · have hi4 : (i : Int) < 40 := by omega
      have i0 : (0 : Int) ≤ i := by omega
      have ca := J.out.a.cell hlt
      rw [mixd_at] at ca
      have fa := J.out.a.fz i
      obtain ⟨t1, t2⟩ := tc_step m n i
      have hn := HN.out
      have hc := tc_le m n i
      have hc2 := tc_le m n (i + 1)
      have hd := dg_lt (B := 256) (by decide) m i
      have hd2 := dg_lt (B := 256) (by decide) (m * n) i
      have HR : Hid (∀ j, j < 40 → (if j = i then dg 256 (m * n) i else mixd (m * n) m i j) = mixd (m * n) m (i + 1) j) := fun j _ => mixd_step (m * n) m i j
      obtain ⟨x, hx⟩ : ∃ x, x = dg 256 (m * n) i := ⟨_, rfl⟩
      rw [← hx] at t1 hd2 HR
      obtain ⟨c1, hc1⟩ : ∃ x, x = tc m n (i + 1) := ⟨_, rfl⟩
      rw [← hc1] at t2 hc2
      have HC1 := hide hc1
      obtain ⟨d0, hd0⟩ : ∃ x, x = dg 256 m i := ⟨_, rfl⟩
      rw [← hd0] at t1 t2 hd ca
      generalize tc m n i = c0 at *
      clear hx hc1 hd0
      have hp : d0 * n ≤ 255 * 1000000 := Nat.mul_le_mul (by omega) hn
      obtain ⟨p, hpe⟩ : ∃ p, p = d0 * n := ⟨_, rfl⟩
      have w1 : IntKind.i64.wrap ((d0 : Int) * (n : Int)) = (p : Int) := by
        rw [← Int.natCast_mul, ← hpe]
        exact wrapI _ (by omega) (by omega)
      rw [← hpe] at hp t1 t2
      clear hpe
      have w2 : IntKind.i64.wrap ((c0 : Int) + (p : Int)) = ((c0 + p : Nat) : Int) := by
        rw [← Int.natCast_add]
        exact wrapI _ (by omega) (by omega)
      obtain ⟨s, hs⟩ : ∃ s, s = c0 + p := ⟨_, rfl⟩
      rw [← hs] at w2 t1 t2
      have q1 : c1 < 9223372036854775808 := by omega
      have q2 : x < 9223372036854775808 := by omega
      have v6 : IntKind.i64.wrap (c1 : Int) = (c1 : Int) := wrapI _ (by omega) (by omega)
      have v8 : IntKind.i64.wrap (x : Int) = (x : Int) := wrapI _ (by omega) (by omega)
      have hiw : IntKind.i64.wrap ((i : Int) + 1) = i + 1 := wrapI _ (by omega) (by omega)
      have v1 : (s : Int) % 256 = (x : Int) := by omega
      have v3 : (s : Int) / 256 = (c1 : Int) := by omega
      have v2 : Int.tmod (s : Int) 256 = (x : Int) := by rw [Int.tmod_eq_emod_of_nonneg (Int.natCast_nonneg _)]; exact v1
      have v4 : Int.tdiv (s : Int) 256 = (c1 : Int) := by rw [Int.tdiv_eq_ediv_of_nonneg (Int.natCast_nonneg _)]; exact v3
      have LL := hide hlt
      have v5 := w64n c1 q1
      have v7 := w64n x q2
      clear hlt hi hn hc hd hp hc2 hd2 t1 t2 hs q1 q2
      go_wp2
      have L4 := LL.out
      exact ⟨⟨i + 1, by omega, by rw [← HC1.out], by go_num, hide (J.out.set i x HR.out)⟩, by simp [intOf]; omega⟩
    · have hke : i = 40 := by omega
      subst hke
      have H2 := (J.out.a.congr (mixd_end (m * n) m)).heap
      generalize tc m n 40 = c at *
      go_wp2_with (first | refine wpList_loadA AN rfl _ rfl _ rfl (bn (m * n)) (bn_size _) 46 H2 ?_ | refine wpList_storeA AN rfl _ _ rfl _ (bn (m * n)) (bn_size _) (bn_one _) rfl rfl (bn 0) (bn_size 0) 46 J.out.r ?_)
      exact bodyPost_ret (v := .agg (bn (m * n))) (resA AN Try.results30 _ _ (w.heap.size + 1) 46 (bn (m * n)) (bn_size _) rfl (setRow_heap _ _ _ _ _ _ J.out.r)) rfl ⟨rfl, below_setRow J.out.bel (by omega) _⟩
end
end Go.Proofs.Ytmfpnlnhebjelaa
