/- The contracts of the document's raw, Limit and Expand. -/
import Derived.Test.YtmfpnlnhebjelaaTf
namespace Go.Proofs.Ytmfpnlnhebjelaa
open Go.RowKit
open Go.Deep
theorem pow8 (i : Nat) : 2 ^ (8 * i) = 256 ^ i := by rw [Nat.pow_mul]
/-- What raw has laid down behind i bytes. -/
def rawf (s u i j : Nat) : Nat := if s ≤ j + 3 ∧ j + 3 < s + i then dg 256 u (j + 3 - s) else 0
theorem rawf_zero (s u j : Nat) : dg 256 0 j = rawf s u 0 j := by rw [dg_zero, rawf, if_neg (by omega)]
theorem rawf_step (s u i k j : Nat) (h : k + 3 = s + i) : (if j = k then dg 256 u i else rawf s u i j) = rawf s u (i + 1) j := by
  unfold rawf
  by_cases e : j = k
  · rw [if_pos e, if_pos (by omega), show j + 3 - s = i by omega]
  · rw [if_neg e]
    by_cases e2 : s ≤ j + 3 ∧ j + 3 < s + i
    · rw [if_pos e2, if_pos (by omega)]
    · rw [if_neg e2, if_neg (by omega)]
theorem rawf_skip (s u i j : Nat) (hj : j < 40) (h : s + i < 3 ∨ 43 ≤ s + i) : rawf s u i j = rawf s u (i + 1) j := by
  unfold rawf
  by_cases e2 : s ≤ j + 3 ∧ j + 3 < s + i
  · rw [if_pos e2, if_pos (by omega)]
  · rw [if_neg e2, if_neg (by omega)]
theorem tgt_split (b : Nat) : tgt b = if b / 16777216 < 3 then b % 8388608 / 256 ^ (3 - b / 16777216) else b % 8388608 * 256 ^ (b / 16777216 - 3) := by
  unfold tgt
  rw [pow8, pow8]
theorem dg_high (u k : Nat) (hu : u < 8388608) (h : 3 ≤ k) : dg 256 u k = 0 := by
  have : 256 ^ 3 ≤ 256 ^ k := Nat.pow_le_pow_right (by decide) h
  rw [dg, Nat.div_eq_of_lt (by omega), Nat.zero_mod]
theorem rawf_end (b j : Nat) : rawf (b / 16777216) (b % 8388608) 3 j = dg 256 (tgt b) j := by
  have hu : b % 8388608 < 8388608 := by omega
  rw [tgt_split]
  generalize b % 8388608 = u at *
  generalize b / 16777216 = s at *
  unfold rawf
  split
  · rename_i h3
    split
    · rw [← dg_up]
      congr 1
      omega
    · rename_i h
      have e : 256 ^ j = 256 ^ (s - 3) * 256 ^ (j + 3 - s) := by rw [← Nat.pow_add]; congr 1; omega
      unfold dg
      rw [e, ← Nat.div_div_eq_div_mul, Nat.mul_div_cancel _ (Nat.pow_pos (by decide))]
  · rename_i h3
    split
    · rename_i h
      rw [← dg_up, dg_high u _ hu (by omega)]
    · rename_i h
      by_cases hj : j + 3 < s
      · have e : 256 ^ (s - 3) = 256 ^ j * (256 * 256 ^ (s - 3 - j - 1)) := by rw [← Nat.pow_succ', ← Nat.pow_add]; congr 1; omega
        rw [dg, e, Nat.mul_left_comm, Nat.mul_div_cancel_left _ (Nat.pow_pos (by decide)), Nat.mul_left_comm, Nat.mul_mod_right]
      · have e : 256 ^ j = 256 ^ (s - 3) * 256 ^ (j + 3 - s) := by rw [← Nat.pow_add]; congr 1; omega
        rw [dg, e, ← Nat.div_div_eq_div_mul, Nat.mul_div_cancel _ (Nat.pow_pos (by decide))]
        exact (dg_high u _ hu (by omega)).symm
theorem tgt_over (b i : Nat) (h3 : i < 3) (h : 43 ≤ b / 16777216 + i) (hd : dg 256 (b % 8388608) i ≠ 0) : ¬ tgt b < MB := by
  rw [tgt_split, if_neg (by omega)]
  unfold MB
  have h1 : 256 ^ i ≤ b % 8388608 := by
    rcases Nat.lt_or_ge (b % 8388608) (256 ^ i) with h' | h'
    · exact absurd (by rw [dg, Nat.div_eq_of_lt h', Nat.zero_mod]) hd
    · exact h'
  have h2 : 256 ^ 40 ≤ 256 ^ (i + (b / 16777216 - 3)) := Nat.pow_le_pow_right (by decide) (by omega)
  have h4 := Nat.mul_le_mul_right (256 ^ (b / 16777216 - 3)) h1
  rw [← Nat.pow_add] at h4
  omega
theorem tgt_fits (b : Nat) (hn : ∀ k, k < 3 → 43 ≤ b / 16777216 + k → dg 256 (b % 8388608) k = 0) : tgt b < MB := by
  have hu : b % 8388608 < 8388608 := by omega
  rw [tgt_split]
  generalize b % 8388608 = u at *
  generalize b / 16777216 = s at *
  split
  · have h1 := Nat.div_le_self u (256 ^ (3 - s))
    have h2 : 8388608 < MB := by decide +kernel
    omega
  · rename_i h3
    have h4 : u < 256 ^ (43 - s) := by
      have h40 := fun h => hn 0 (by omega) h
      have h41 := fun h => hn 1 (by omega) h
      have h42 := fun h => hn 2 (by omega) h
      unfold dg at h40 h41 h42
      rw [Nat.pow_zero] at h40
      rw [Nat.pow_one] at h41
      rw [show 256 ^ 2 = 65536 from rfl] at h42
      rcases (show 43 - s = 0 ∨ 43 - s = 1 ∨ 43 - s = 2 ∨ 3 ≤ 43 - s by omega) with h | h | h | h
      · rw [h, Nat.pow_zero]
        have := h40 (by omega)
        have := h41 (by omega)
        have := h42 (by omega)
        omega
      · rw [h, Nat.pow_one]
        have := h41 (by omega)
        have := h42 (by omega)
        omega
      · rw [h, show 256 ^ 2 = 65536 from rfl]
        have := h42 (by omega)
        omega
      · have : 256 ^ 3 ≤ 256 ^ (43 - s) := Nat.pow_le_pow_right (by decide) h
        omega
    rcases Nat.lt_or_ge s 44 with hs | hs
    · have h5 := Nat.mul_lt_mul_of_pos_right h4 (Nat.pow_pos (n := s - 3) (show 0 < 256 by decide))
      rw [← Nat.pow_add, show 43 - s + (s - 3) = 40 by omega] at h5
      exact h5
    · rw [show 43 - s = 0 by omega, Nat.pow_zero] at h4
      rw [show u = 0 by omega, Nat.zero_mul]
      exact MB_pos
/-- An answer's place, and a row. -/
structure Rw (w W : World) (f : Nat → Nat) : Prop where
  r : W.heap[w.heap.size]? = some (.cells (bn 0) 46 (0, 0))
  o : Ni W (w.heap.size + 1) 46 40 f
  bel : Below w.heap.size w W
theorem Rw.start (w : World) : Rw w ((w.alloc (.cells (bn 0) 46)).alloc (.cells (bn 0) 46)) (dg 256 0) :=
  ⟨(blk2x w _ _).1, Ni.of_heap (blk2x w _ _).2, below2x w _ _⟩
theorem Rw.set {w W : World} {f : Nat → Nat} (j : Rw w W f) (i x : Nat) : Rw w (W.setCell ⟨w.heap.size + 1, i, none⟩ (.int .i64 ((x : Nat) : Int))) (fun k => if k = i then x else f k) :=
  ⟨(Below.heap_setCell _ _ _ _ (by simp <;> omega)).trans j.r, j.o.set i x, j.bel.setCell (by simp <;> omega) _⟩
theorem Rw.congr {w W : World} {f f' : Nat → Nat} (j : Rw w W f) (e : ∀ i, i < 40 → f i = f' i) : Rw w W f' := ⟨j.r, j.o.congr e, j.bel⟩
section
set_option maxRecDepth 10000
set_option maxHeartbeats 2000000
theorem raw_core (b : Nat) (hb : b < 4294967296) (w : World) : Calls Try.prog 47 #[.int .u32 (b : Int)] w fun e w' => (e = .returned (.tuple #[.agg (bn (tgt b)), .bool true]) ∧ tgt b < MB ∨ e = .returned (.tuple #[.agg (bn 0), .bool false]) ∧ ¬ tgt b < MB) ∧ Below w.heap.size w w' := by
  have hl := and_low b hb
  have hs : (b : Int) / 16777216 = ((b / 16777216 : Nat) : Int) := by omega
  have hs8 : b / 16777216 < 256 := by omega
  have hu8 : b % 8388608 < 8388608 := by omega
  have J0 := hide ((Rw.start w).congr (fun j _ => rawf_zero (b / 16777216) (b % 8388608) j))
  have w1 : IntKind.i64.wrap ((b / 16777216 : Nat) : Int) = ((b / 16777216 : Nat) : Int) := wrapI _ (by omega) (by omega)
  have w2 : IntKind.i64.wrap (((b / 16777216 : Nat) : Int) - 3) = ((b / 16777216 : Nat) : Int) - 3 := wrapI _ (by omega) (by omega)
  have HE : Hid (∀ j, rawf (b / 16777216) (b % 8388608) 3 j = dg 256 (tgt b) j) := fun j => rawf_end b j
  have HO : Hid (∀ i, i < 3 → 43 ≤ b / 16777216 + i → dg 256 (b % 8388608) i ≠ 0 → ¬ tgt b < MB) := fun i h3 h hd => tgt_over b i h3 h hd
  have HFt : Hid ((∀ k, k < 3 → 43 ≤ b / 16777216 + k → dg 256 (b % 8388608) k = 0) → tgt b < MB) := tgt_fits b
  generalize tgt b = T at *
  generalize b % 8388608 = u at *
  generalize b / 16777216 = s at *
  have SU := hide (And.intro hs8 hu8)
  clear hs8 hu8 hb
  go_enter Try.func47, Try.ntmps47
  go_wp2_with (first | refine wpList_allocA AN rfl rfl ?_ | refine wpList_buildA AN rfl rfl ?_ | refine wpList_store_newA AN rfl _ _ rfl _ rfl (bn 0) (bn_size _) (bn_one _) rfl rfl ?_)
  generalize (w.alloc (.cells (bn 0) 46)).alloc (.cells (bn 0) 46) = W0 at *
  go_loopw [7, 8, 9] (fun d _ _ wr => ∃ i : Nat, i ≤ 3 ∧ d = .int .i64 i ∧ Hid (Rw w wr (rawf s u i)) ∧ Hid (∀ k, k < i → 43 ≤ s + k → dg 256 u k = 0)) (fun d _ _ _ => (3 - intOf d).toNat)
  case atStart => exact ⟨0, by omega, rfl, J0, fun k hk => by omega⟩
  case round =>
    clear J0
    obtain ⟨i, hi, rfl, J, N⟩ := hrel
    by_cases hlt : i < 3
    · obtain ⟨hs8, hu8⟩ := SU.out
      have hi4 : (i : Int) < 3 := by omega
      have i0 : (0 : Int) ≤ i := by omega
      have c0 : IntKind.i64.wrap ((s : Int) - 3 + i) = (s : Int) - 3 + i := wrapI _ (by omega) (by omega)
      have c1 : IntKind.i64.wrap (8 * (i : Int)) = ((8 * i : Nat) : Int) := by rw [wrapI _ (by omega) (by omega)]; omega
      have c2 : IntKind.u64.wrap ((8 * i : Nat) : Int) = ((8 * i : Nat) : Int) := wrapu _ (by omega) (by omega)
      have c3 : ((8 * i : Nat) : Int) ≤ 64 := by omega
      have c4 : (0 : Int) ≤ ((8 * i : Nat) : Int) := by omega
      have hmn : min (8 * i) 32 = 8 * i := by omega
      have x0 : (u : Int) / 2 ^ (8 * i) = ((u / 2 ^ (8 * i) : Nat) : Int) := by simp
      have hdg : u / 2 ^ (8 * i) % 256 = dg 256 u i := by rw [pow8]; rfl
      have x1 : ((u / 2 ^ (8 * i) : Nat) : Int) % 256 = ((dg 256 u i : Nat) : Int) := by rw [← hdg]; omega
      have x2 : Int.tmod ((u / 2 ^ (8 * i) : Nat) : Int) 256 = ((dg 256 u i : Nat) : Int) := by rw [Int.tmod_eq_emod_of_nonneg (Int.natCast_nonneg _)]; exact x1
      have hdl := dg_lt (B := 256) (by decide) u i
      have x3 : IntKind.i64.wrap ((dg 256 u i : Nat) : Int) = ((dg 256 u i : Nat) : Int) := wrapI _ (by omega) (by omega)
      have hiw : IntKind.i64.wrap ((i : Int) + 1) = i + 1 := wrapI _ (by omega) (by omega)
      have LL := hide hlt
      have NX : Hid (dg 256 u i = 0 ∨ s + i < 43 → ∀ k, k < i + 1 → 43 ≤ s + k → dg 256 u k = 0) := fun h k hk h43 => by
        rcases Nat.lt_or_ge k i with h' | h'
        · exact N.out k h' h43
        · have e : k = i := by omega
          subst e
          rcases h with h | h
          · exact h
          · omega
      have HOi := hide (HO.out i hlt)
      rcases (show s + i < 3 ∨ (3 ≤ s + i ∧ s + i < 43) ∨ 43 ≤ s + i by omega) with hc | hc | hc
      · have t1 : ¬ (0 : Int) ≤ (s : Int) - 3 + i := by omega
        have t2 : ¬ (40 : Int) ≤ (s : Int) - 3 + i := by omega
        have HR : Hid (∀ j, j < 40 → rawf s u i j = rawf s u (i + 1) j) := fun j hj => rawf_skip s u i j hj (.inl hc)
        have NN := hide (NX.out (.inr (by omega)))
        clear hs8 hu8 hlt hi hdl hdg hc
        generalize u / 2 ^ (8 * i) = z at *
        generalize 8 * i = r at *
        generalize dg 256 u i = dd at *
        go_wp2
        have L4 := LL.out
        exact ⟨⟨i + 1, by omega, by go_num, hide (J.out.congr HR.out), NN⟩, by simp [intOf]; omega⟩
      · obtain ⟨k, hk⟩ : ∃ k, k + 3 = s + i := ⟨s + i - 3, by omega⟩
        have ek : (s : Int) - 3 + i = (k : Int) := by omega
        replace c0 : IntKind.i64.wrap ((s : Int) - 3 + i) = (k : Int) := c0.trans ek
        have t1 : (0 : Int) ≤ (k : Int) := by omega
        have t2 : (k : Int) < 40 := by omega
        have t3 : ¬ (40 : Int) ≤ (k : Int) := by omega
        have HR : Hid (∀ j, (if j = k then dg 256 u i else rawf s u i j) = rawf s u (i + 1) j) := fun j => rawf_step s u i k j hk
        have NN := hide (NX.out (.inr hc.2))
        have co := J.out.o.cell (show k < 40 by omega)
        have fo := J.out.o.fz k
        clear hs8 hu8 hlt hi hdl hdg hc hk ek
        generalize u / 2 ^ (8 * i) = z at *
        generalize 8 * i = r at *
        generalize dg 256 u i = dd at *
        go_wp2
        have L4 := LL.out
        exact ⟨⟨i + 1, by omega, by go_num, hide ((J.out.set k dd).congr (fun j _ => HR.out j)), NN⟩, by simp [intOf]; omega⟩
      · have t1 : (0 : Int) ≤ (s : Int) - 3 + i := by omega
        have t2 : ¬ (s : Int) - 3 + i < 40 := by omega
        have t3 : (40 : Int) ≤ (s : Int) - 3 + i := by omega
        have HR : Hid (∀ j, j < 40 → rawf s u i j = rawf s u (i + 1) j) := fun j hj => rawf_skip s u i j hj (.inr hc)
        by_cases hz : dg 256 u i = 0
        · have NN := hide (NX.out (.inl hz))
          have hz2 : (((dg 256 u i : Nat) : Int) != 0) = false := by simp [hz]
          clear hs8 hu8 hlt hi hdl hdg hc hz
          generalize u / 2 ^ (8 * i) = z at *
          generalize 8 * i = r at *
          generalize dg 256 u i = dd at *
          go_wp2
          have L4 := LL.out
          exact ⟨⟨i + 1, by omega, by go_num, hide (J.out.congr HR.out), NN⟩, by simp [intOf]; omega⟩
        · have NO := hide (HOi.out hc hz)
          have hz2 : (((dg 256 u i : Nat) : Int) != 0) = true := by simp [hz]
          have r0 := hide J.out.r
          clear hs8 hu8 hlt hi hdl hdg hc hz
          generalize u / 2 ^ (8 * i) = z at *
          generalize 8 * i = r at *
          generalize dg 256 u i = dd at *
          go_wp2_with (first | refine wpList_buildA AN rfl rfl ?_ | refine wpList_storeA AN rfl _ _ rfl _ (bn 0) (bn_size _) (bn_one _) rfl rfl (bn 0) (bn_size 0) 46 r0.out ?_)
          exact bodyPost_ret (v := .tuple #[.agg (bn 0), .bool false]) (resA2 AN Try.results47 _ _ w.heap.size 46 (bn 0) (bn_size _) rfl (setRow_heap _ _ _ _ _ _ r0.out) _ (by rfl)) rfl ⟨.inr ⟨rfl, Nat.le_of_not_lt NO.out⟩, below_setRow J.out.bel (Nat.le_refl _) _⟩
    · have hke : i = 3 := by omega
      subst hke
      have H2 := hide (J.out.o.congr (f' := dg 256 T) (fun j _ => HE.out j)).heap
      have FF := hide (HFt.out N.out)
      have r0 := hide J.out.r
      go_wp2_with (first | refine wpList_loadA AN rfl _ rfl _ rfl (bn T) (bn_size _) 46 H2.out ?_ | refine wpList_storeA AN rfl _ _ rfl _ (bn T) (bn_size _) (bn_one _) rfl rfl (bn 0) (bn_size 0) 46 r0.out ?_)
      exact bodyPost_ret (v := .tuple #[.agg (bn T), .bool true]) (resA2 AN Try.results47 _ _ w.heap.size 46 (bn T) (bn_size _) rfl (setRow_heap _ _ _ _ _ _ r0.out) _ (by rfl)) rfl ⟨.inl ⟨rfl, FF.out⟩, below_setRow J.out.bel (Nat.le_refl _) _⟩
end
theorem raw_any (b : Nat) (hb : b < 4294967296) (w : World) : Calls Try.prog 47 #[.int .u32 (b : Int)] w fun e w' => e = .returned (.tuple #[.agg (bn (if tgt b < MB then tgt b else 0)), .bool (decide (tgt b < MB))]) ∧ Below w.heap.size w w' := by
  refine (raw_core b hb w).mono ?_
  rintro e w' ⟨h, bel⟩
  refine ⟨?_, bel⟩
  rcases h with ⟨rfl, h⟩ | ⟨rfl, h⟩ <;> simp [h]
end Go.Proofs.Ytmfpnlnhebjelaa
