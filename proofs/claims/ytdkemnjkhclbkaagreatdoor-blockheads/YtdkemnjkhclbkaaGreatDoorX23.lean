/- Targets: the mathematics of bits; the contracts of target.said and Limit. The contracts of target.Limit and target.Expand. The contracts of the document's Of, raw and Limit. -/
import Derived.Test.YtdkemnjkhclbkaaGreatDoorX22
import Derived.Test.YtdkemnjkhclbkaaGreatDoorX21
import Derived.Test.YtdkemnjkhclbkaaGreatDoorX18
namespace Go.Proofs.YtdkemnjkhclbkaaGreatDoor
open Go.RowKit
open Go.Deep
/-- The target that bits say. -/
def tgt (b : Nat) : Nat := if b / 16777216 < 3 then b % 8388608 / 2 ^ (8 * (3 - b / 16777216)) else b % 8388608 * 2 ^ (8 * (b / 16777216 - 3))
theorem and_low (b : Nat) (hb : b < 4294967296) : bits .and .u32 (b : Int) 8388607 = ((b % 8388608 : Nat) : Int) := by
  have e := u32_and_nat b 8388607 hb (by decide)
  rw [show ((8388607 : Nat) : Int) = 8388607 from rfl] at e
  rw [e]
  congr 1
  exact Nat.and_two_pow_sub_one_eq_mod b 23
theorem and_pow (b k : Nat) : b &&& 2 ^ k = if b / 2 ^ k % 2 = 1 then 2 ^ k else 0 := by
  apply Nat.eq_of_testBit_eq
  intro i
  rw [Nat.testBit_and, Nat.testBit_two_pow]
  by_cases h : k = i
  · subst h
    rw [Nat.testBit_eq_decide_div_mod_eq]
    by_cases h2 : b / 2 ^ k % 2 = 1 <;> simp [h2]
  · simp only [h, decide_false, Bool.and_false]
    split
    · rw [Nat.testBit_two_pow]
      simp [h]
    · simp
theorem and_bit (b : Nat) (hb : b < 4294967296) : (bits .and .u32 (b : Int) 8388608 != 0) = decide (b / 8388608 % 2 = 1) := by
  have e := u32_and_nat b 8388608 hb (by decide)
  rw [show ((8388608 : Nat) : Int) = 8388608 from rfl] at e
  have e2 : b &&& 8388608 = if b / 8388608 % 2 = 1 then 8388608 else 0 := and_pow b 23
  rw [e, e2]
  by_cases h : b / 8388608 % 2 = 1
  · rw [if_pos h]
    simp only [h]
    decide
  · rw [if_neg h]
    simp only [h]
    decide
theorem big_none (a k : Nat) (h : 256 ≤ k) : wn (a * 2 ^ k) = wn 0 ∧ decide (M ≤ a * 2 ^ k) = decide (0 < a) := by
  have e : 2 ^ k = M * 2 ^ (k - 256) := by rw [M_pow, ← Nat.pow_add, show 256 + (k - 256) = k by omega]
  have hp := Nat.two_pow_pos (k - 256)
  constructor
  · rw [e, Nat.mul_left_comm, ← wn_mod, Nat.mul_mod_right]
  · rw [Bool.eq_iff_iff]
    simp only [decide_eq_true_eq]
    constructor
    · intro h1
      rcases Nat.eq_zero_or_pos a with h2 | h2
      · subst h2
        rw [Nat.zero_mul] at h1
        exact absurd h1 (by decide)
      · exact h2
    · intro h1
      rw [e, Nat.mul_left_comm]
      exact Nat.le_mul_of_pos_right M (Nat.mul_pos h1 hp)
section
set_option maxRecDepth 10000
set_option maxHeartbeats 2000000
theorem said_any (b : Nat) (hb : b < 4294967296) (w : World) : Calls Tryz.prog 95 #[.int .u32 (b : Int)] w fun e w' => e = .returned (.tuple #[.agg (wn (tgt b)), .bool (decide (M ≤ tgt b))]) ∧ Below w.heap.size w w' := by
  have hl := and_low b hb
  have hmm : b % 8388608 < 18446744073709551616 := by omega
  have HF := hide fun W => from_any (b % 8388608) hmm W
  have hmM : b % 8388608 < M := Nat.lt_trans hmm (by decide)
  have hs : (b : Int) / 16777216 = ((b / 16777216 : Nat) : Int) := by omega
  have hs8 : b / 16777216 < 256 := by omega
  have w1 : IntKind.i64.wrap ((b / 16777216 : Nat) : Int) = ((b / 16777216 : Nat) : Int) := wrapI _ (by omega) (by omega)
  have w2 : IntKind.i64.wrap (((b / 16777216 : Nat) : Int) - 3) = ((b / 16777216 : Nat) : Int) - 3 := wrapI _ (by omega) (by omega)
  have w3 : IntKind.i64.wrap (8 * (((b / 16777216 : Nat) : Int) - 3)) = 8 * (((b / 16777216 : Nat) : Int) - 3) := wrapI _ (by omega) (by omega)
  have w4 : IntKind.u64.wrap ((b % 8388608 : Nat) : Int) = ((b % 8388608 : Nat) : Int) := wrapu _ (by omega) (by omega)
  have HL : Hid (∀ W, Calls Tryz.prog 122 #[.agg (wn (b % 8388608)), .int .i64 (8 * (((b / 16777216 : Nat) : Int) - 3))] W fun e w' => e = .returned (.tuple #[.agg (wn (tgt b)), .bool (decide (M ≤ tgt b))]) ∧ Below W.heap.size W w') := by
    intro W
    unfold tgt
    generalize b / 16777216 = s at *
    generalize b % 8388608 = u at *
    by_cases h3 : s < 3
    · rw [if_pos h3]
      have := left_neg u (8 * ((s : Int) - 3)) (8 * (3 - s)) hmM (by omega) (by unfold sh; rw [if_neg (by omega), if_neg (by omega)]; omega) (by omega) W
      have hlt : u / 2 ^ (8 * (3 - s)) < M := Nat.lt_of_le_of_lt (Nat.div_le_self _ _) hmM
      rw [show decide (M ≤ u / 2 ^ (8 * (3 - s))) = false by simp; omega]
      exact this
    · rw [if_neg h3]
      by_cases hk : 8 * (s - 3) ≤ 256
      · exact left_pos u (8 * ((s : Int) - 3)) (8 * (s - 3)) hmM (by unfold sh; rw [if_neg (by omega), if_neg (by omega)]; omega) hk W
      · have := left_pos u (8 * ((s : Int) - 3)) 256 hmM (by unfold sh; rw [if_neg (by omega), if_pos (by omega)]; rfl) (by omega) W
        rw [(big_none u 256 (by omega)).1, (big_none u 256 (by omega)).2] at this
        rw [(big_none u (8 * (s - 3)) (by omega)).1, (big_none u (8 * (s - 3)) (by omega)).2]
        exact this
  have J0 := hide (heap_alloc_last w (.cells (wn 0) 118))
  have B0 := hide ((Below.refl w.heap.size w).alloc (Nat.le_refl _) (.cells (wn 0) 118))
  generalize tgt b = T at *
  generalize decide (M ≤ T) = ov at *
  clear hmm hmM hs8
  generalize b % 8388608 = u at *
  generalize b / 16777216 = s at *
  go_enter Tryz.func95, Tryz.ntmps95
  go_upto_region 1 with (refine wpList_allocA AW rfl rfl ?_)
  generalize w.alloc (.cells (wn 0) 118) = W0 at *
  go_wp2_with (first | (go_at_call 123; refine (HF.out _).mono ?_; rintro e w1 ⟨rfl, b1⟩; have J1 := hide ((b1.block _ (lt_heap J0.out)).trans J0.out); have B1 := hide (below_next B0.out b1); clear b1) | (go_at_call 122; refine (HL.out _).mono ?_; rintro e w2 ⟨rfl, b2⟩; have J2 := hide ((b2.block _ (lt_heap J1.out)).trans J1.out); have B2 := hide (below_next B1.out b2); clear b2) | refine wpList_storeA AW rfl _ _ rfl _ (wn T) (wn_size _) (wn_one _) rfl rfl (wn 0) (wn_size 0) 118 J2.out ?_)
  exact bodyPost_ret (v := .tuple #[.agg (wn T), .bool ov]) (resA2 AW Tryz.results95 _ _ w.heap.size 118 (wn T) (wn_size _) rfl (setRow_heap _ _ _ _ _ _ J2.out) _ (by rfl)) rfl ⟨rfl, below_setRow B2.out (Nat.le_refl _) _⟩
end
end Go.Proofs.YtdkemnjkhclbkaaGreatDoor
namespace Go.Proofs.YtdkemnjkhclbkaaGreatDoor
open Go.RowKit
open Go.Deep
/-- The greatest target. -/
def Lm : Nat := 8388607 * 2 ^ 232
theorem Lm_eq : tgt 545259519 = Lm := by decide +kernel
theorem Lm_M : Lm < M := by decide +kernel
theorem Lm_ov : decide (M ≤ Lm) = false := by decide +kernel
/-- Bits that may be. -/
def okB (b : Nat) : Bool := decide (b / 8388608 % 2 = 0) && decide (0 < tgt b) && decide (tgt b ≤ Lm)
section
set_option maxRecDepth 10000
set_option maxHeartbeats 2000000
theorem limit_any (w : World) : Calls Tryz.prog 97 #[] w fun e w' => e = .returned (.agg (wn Lm)) ∧ Below w.heap.size w w' := by
  have HS : Hid (∀ W, Calls Tryz.prog 95 #[.int .u32 545259519] W fun e w' => e = .returned (.tuple #[.agg (wn Lm), .bool false]) ∧ Below W.heap.size W w') := fun W => by
    have := said_any 545259519 (by decide) W
    rw [Lm_eq, Lm_ov] at this
    exact this
  have J0 := hide (heap_alloc_last w (.cells (wn 0) 118))
  have B0 := hide ((Below.refl w.heap.size w).alloc (Nat.le_refl _) (.cells (wn 0) 118))
  generalize Lm = L at *
  go_enter Tryz.func97, Tryz.ntmps97
  go_upto_region 1 with (refine wpList_allocA AW rfl rfl ?_)
  generalize w.alloc (.cells (wn 0) 118) = W0 at *
  go_wp2_with (first | (go_at_call 95; refine (HS.out _).mono ?_; rintro e w1 ⟨rfl, b1⟩; have J1 := hide (((below_allocZ w1 (.cells (wn L) 118)).block _ (Nat.lt_of_lt_of_le (lt_heap J0.out) b1.size)).trans ((b1.block _ (lt_heap J0.out)).trans J0.out)); have B1 := hide (below_next (below_next B0.out b1) (below_allocZ w1 (.cells (wn L) 118))); have G1 := hide (heap_alloc_last w1 (.cells (wn L) 118)); clear b1) | refine wpList_allocA AW rfl rfl ?_ | refine wpList_store_newA AW rfl _ _ rfl _ rfl (wn L) (wn_size _) (wn_one _) rfl rfl ?_ | refine wpList_loadA AW rfl _ rfl _ rfl (wn L) (wn_size _) 118 G1.out ?_ | refine wpList_storeA AW rfl _ _ rfl _ (wn L) (wn_size _) (wn_one _) rfl rfl (wn 0) (wn_size 0) 118 J1.out ?_)
  exact bodyPost_ret (v := .agg (wn L)) (resA AW Tryz.results97 _ _ w.heap.size 118 (wn L) (wn_size _) rfl (setRow_heap _ _ _ _ _ _ J1.out)) rfl ⟨rfl, below_setRow B1.out (Nat.le_refl _) _⟩
/-- Expand, by what its four tests say. -/
theorem expand_core (b : Nat) (hb : b < 4294967296) (ov sg zb gt : Bool) (hov : decide (M ≤ tgt b) = ov) (hsg : decide (b / 8388608 % 2 = 1) = sg) (hzb : decide (tgt b % M = 0) = zb) (hgt : decide (0 < cmpZ (tgt b % M) Lm) = gt) (w : World) :
    Calls Tryz.prog 61 #[.int .u32 (b : Int)] w fun e w' => e = .returned (if ov || sg || zb || gt then .tuple #[.agg (wn 0), .int .i64 50] else .tuple #[.agg (wn (tgt b % M)), .int .i64 0]) ∧ Below w.heap.size w w' := by
  have HS := hide fun W => said_any b hb W
  rw [hov, ← wn_mod] at HS
  have hand := and_bit b hb
  rw [hsg] at hand
  have hT := Nat.mod_lt (tgt b) M_pos
  have HZ := hide fun W => zero_any _ hT W
  rw [hzb] at HZ
  have HL := hide fun W => limit_any W
  have HC := hide fun W => compare_any _ _ hT Lm_M W
  have J0 := hide (Rs.start1 w 118 0)
  generalize tgt b % M = T at *
  generalize Lm = L at *
  generalize cmpZ T L = z at *
  clear hov hsg hzb hT hb
  go_enter Tryz.func61, Tryz.ntmps61
  go_upto_region 1 with (refine wpList_allocA AW rfl rfl ?_)
  generalize w.alloc (.cells (wn 0) 118) = W0 at *
  go_upto_region 2 with (first | (go_at_call 95; refine (HS.out _).mono ?_; rintro e w1 ⟨rfl, be⟩; have J1 := hide ((J0.out.next be).new 118 T); clear be) | refine wpList_allocA AW rfl rfl ?_ | refine wpList_store_newA AW rfl _ _ rfl _ rfl (wn T) (wn_size _) (wn_one _) rfl rfl ?_)
  have LT := hide (lt_heap (J0.out.at (g := w.heap.size) (t := 118) (n := 0) (by simp)))
  generalize w1.alloc (.cells (wn T) 118) = W1 at *
  generalize w1.heap.size = g4 at *
  clear J0 HS
  have hc : ov = true ∨ (ov = false ∧ sg = true) ∨ (ov = false ∧ sg = false ∧ zb = true) ∨ (ov = false ∧ sg = false ∧ zb = false ∧ gt = true) ∨ (ov = false ∧ sg = false ∧ zb = false ∧ gt = false) := by
    cases ov <;> cases sg <;> cases zb <;> cases gt <;> simp
  have r2 := hide (J1.out.at (g := w.heap.size) (t := 118) (n := 0) (by simp))
  obtain ⟨I, hne, F, i0, h0, hJ, hcl⟩ := J1.out.cls
  rcases hc with rfl | ⟨rfl, rfl⟩ | ⟨rfl, rfl, rfl⟩ | ⟨rfl, rfl, rfl, rfl⟩ | ⟨rfl, rfl, rfl, rfl⟩
  all_goals
    refine wp_region_class_lit (by kernel_rfl) (by kernel_rfl) i0 h0 ?_
    repeat (first | ((go_big_quiet_want; refine quiet_loadA AW _ (by rfl) g4 (by rfl) (wn T) (wn_size _) 118 (Rs.of hJ (by simp)) ?_); go_big_quiet_on; simp only [Act.put, List.setIfInBounds_toArray, List.set_cons_succ, List.set_cons_zero]) | go_big_quiet_step (first | (go_at_call 96; exact class_of hcl.out (HZ.out _)) | (go_at_call 97; exact class_of hcl.out (HL.out _)) | (go_at_call 75; exact class_of hcl.out (HC.out _))))
    refine wpQuiet_nil ?_
    rintro _ ⟨iq, rfl⟩
    have J2 := hide (hJ.out iq)
    clear hJ hcl h0 HZ HL HC r2
    generalize F iq = W2 at *
    have r2 := hide (J2.out.at (g := w.heap.size) (t := 118) (n := 0) (by simp))
    have r4 := hide (J2.out.at (g := g4) (t := 118) (n := T) (by simp))
  iterate 4
    · go_wp2_with (first | refine wpList_buildA AW rfl rfl ?_ | refine wpList_storeA AW rfl _ _ rfl _ (wn 0) (wn_size _) (wn_one _) rfl rfl (wn 0) (wn_size 0) 118 r2.out ?_)
      exact bodyPost_ret (v := .tuple #[.agg (wn 0), .int .i64 50]) (resA2 AW Tryz.results61 _ _ w.heap.size 118 (wn 0) (wn_size _) rfl (setRow_heap _ _ _ _ _ _ r2.out) _ (by rfl)) rfl ⟨rfl, below_setRow J2.out.bel (Nat.le_refl _) _⟩
  · go_wp2_with (first | refine wpList_loadA AW rfl _ rfl g4 rfl (wn T) (wn_size _) 118 r4.out ?_ | refine wpList_storeA AW rfl _ _ rfl _ (wn T) (wn_size _) (wn_one _) rfl rfl (wn 0) (wn_size 0) 118 r2.out ?_)
    exact bodyPost_ret (v := .tuple #[.agg (wn T), .int .i64 0]) (resA2 AW Tryz.results61 _ _ w.heap.size 118 (wn T) (wn_size _) rfl (setRow_heap _ _ _ _ _ _ r2.out) _ (by rfl)) rfl ⟨rfl, below_setRow J2.out.bel (Nat.le_refl _) _⟩
end
theorem cmp_gt (m n : Nat) : (0 < cmpZ m n) = (n < m) := by
  apply propext
  unfold cmpZ
  split
  · simp; omega
  · split <;> simp <;> omega
theorem expand_yes (b : Nat) (hb : b < 4294967296) (h : okB b = true) (w : World) : Calls Tryz.prog 61 #[.int .u32 (b : Int)] w fun e w' => e = .returned (.tuple #[.agg (wn (tgt b)), .int .i64 0]) ∧ Below w.heap.size w w' := by
  unfold okB at h
  simp only [Bool.and_eq_true, decide_eq_true_eq] at h
  have hL := Lm_M
  have := expand_core b hb false false false false (by simp; omega) (by simp; omega) (by rw [Nat.mod_eq_of_lt (by omega)]; simp; omega) (by rw [Nat.mod_eq_of_lt (by omega)]; simp only [cmp_gt]; simp; omega) w
  rw [Nat.mod_eq_of_lt (by omega)] at this
  exact this
theorem expand_no (b : Nat) (hb : b < 4294967296) (h : okB b = false) (w : World) : Calls Tryz.prog 61 #[.int .u32 (b : Int)] w fun e w' => e = .returned (.tuple #[.agg (wn 0), .int .i64 50]) ∧ Below w.heap.size w w' := by
  have := expand_core b hb _ _ _ _ rfl rfl rfl rfl w
  rw [if_pos] at this
  · exact this
  · simp only [cmp_gt, Bool.or_eq_true, decide_eq_true_eq]
    unfold okB at h
    by_cases h1 : M ≤ tgt b
    · exact .inl (.inl (.inl h1))
    · rw [Nat.mod_eq_of_lt (show tgt b < M by omega)]
      by_cases h2 : b / 8388608 % 2 = 1
      · exact .inl (.inl (.inr h2))
      · by_cases h3 : tgt b = 0
        · exact .inl (.inr h3)
        · right
          rcases Nat.lt_or_ge Lm (tgt b) with h4 | h4
          · exact h4
          · rw [show decide (b / 8388608 % 2 = 0) = true by simp; omega, show decide (0 < tgt b) = true by simp; omega, show decide (tgt b ≤ Lm) = true by simp; omega] at h
            cases h
end Go.Proofs.YtdkemnjkhclbkaaGreatDoor
namespace Go.Proofs.YtdkemnjkhclbkaaGreatDoor
open Go.RowKit
open Go.Deep
/-- The number of 32 bytes. -/
def hv (l : List UInt8) : Nat := vs 256 (by8 l) 32
theorem hv_lt (l : List UInt8) : hv l < M := by
  have := vs_lt (B := 256) (f := by8 l) (k := 32) (fun i _ => by8_lt l i)
  have e : M = 256 ^ 32 := by decide +kernel
  rw [e]
  exact this
/-- The digits below i, zeros behind. -/
def lowd (l : List UInt8) (i j : Nat) : Nat := if j < i then by8 l j else 0
theorem lowd_step (l : List UInt8) (i j : Nat) : (if j = i then by8 l i else lowd l i j) = lowd l (i + 1) j := by
  unfold lowd
  by_cases e : j = i
  · rw [if_pos e, if_pos (by omega), e]
  · rw [if_neg e]
    by_cases e2 : j < i
    · rw [if_pos e2, if_pos (by omega)]
    · rw [if_neg e2, if_neg (by omega)]
theorem lowd_end (l : List UInt8) (j : Nat) : lowd l 32 j = dg 256 (hv l) j := by
  unfold lowd hv
  split
  · rename_i h
    exact (dg_vs (fun i _ => by8_lt l i) j h).symm
  · rename_i h
    have h1 := vs_lt (B := 256) (f := by8 l) (k := 32) (fun i _ => by8_lt l i)
    have h2 : 256 ^ 32 ≤ 256 ^ j := Nat.pow_le_pow_right (by decide) (by omega)
    rw [dg, Nat.div_eq_of_lt (by omega), Nat.zero_mod]
/-- Bytes, an answer's place, and a row of ints. -/
structure On (w W : World) (t u : TypeId) (l : List UInt8) (f : Nat → Nat) : Prop where
  a : W.heap[w.heap.size]? = some (.cells (hc l) t (0, 0))
  r : W.heap[w.heap.size + 1]? = some (.cells (bn 0) u (0, 0))
  o : Ni W (w.heap.size + 1 + 1) u 40 f
  bel : Below w.heap.size w W
theorem On.start (w : World) (t u : TypeId) (l : List UInt8) : On w (((w.alloc (.cells (hc l) t)).alloc (.cells (bn 0) u)).alloc (.cells (bn 0) u)) t u l (dg 256 0) := by
  obtain ⟨e1, e2, e3⟩ := blk3 w (.cells (hc l) t) (.cells (bn 0) u) (.cells (bn 0) u)
  exact ⟨e1, e2, Ni.of_heap e3, below3 w _ _ _⟩
theorem On.set {w W : World} {t u : TypeId} {l : List UInt8} {f : Nat → Nat} (j : On w W t u l f) (i x : Nat) : On w (W.setCell ⟨w.heap.size + 1 + 1, i, none⟩ (.int .i64 ((x : Nat) : Int))) t u l (fun k => if k = i then x else f k) :=
  ⟨(Below.heap_setCell _ _ _ _ (by simp <;> omega)).trans j.a, (Below.heap_setCell _ _ _ _ (by simp <;> omega)).trans j.r, j.o.set i x, j.bel.setCell (by simp <;> omega) _⟩
theorem On.congr {w W : World} {t u : TypeId} {l : List UInt8} {f f' : Nat → Nat} (j : On w W t u l f) (e : ∀ i, i < 40 → f i = f' i) : On w W t u l f' := ⟨j.a, j.r, j.o.congr e, j.bel⟩
theorem A49 : Arr 23 32 (hc zeros) := ⟨.inl ⟨_, _, Tryz.underlying23⟩, by kernel_rfl, fun w => by kernel_rfl, fun w => by kernel_rfl, by rw [hc_size]; rfl⟩
theorem hc_cell {W : World} {g : Nat} {t : TypeId} {l : List UInt8} (h : W.heap[g]? = some (.cells (hc l) t (0, 0))) (i : Nat) (hi : i < l.length) : W.cell? ⟨g, i, none⟩ = some (.int .u8 (by8 l i : Int)) :=
  World.rowIs.cell (row_of (f := fun i => .int .u8 (by8 l i : Int)) (hc_size l) h (fun k hk => hc_at l k hk)) hi
section
set_option maxRecDepth 10000
set_option maxHeartbeats 2000000
theorem ofN_any (l : List UInt8) (hl : l.length = 32) (w : World) : Calls Tryz.prog 79 #[.agg (hc l)] w fun e w' => e = .returned (.agg (bn (hv l))) ∧ Below w.heap.size w w' := by
  have J0 := hide ((On.start w 23 150 l).congr (f' := lowd l 0) (fun i _ => by rw [dg_zero]; simp [lowd]))
  have HL := hide hl
  clear hl
  go_enter Tryz.func79, Tryz.ntmps79
  go_wp2_with (first | refine wpList_boxA rfl _ rfl (hc l) rfl ?_ | refine wpList_allocA AN rfl rfl ?_ | refine wpList_buildA AN rfl rfl ?_ | refine wpList_store_newA AN rfl _ _ rfl _ rfl (bn 0) (bn_size _) (bn_one _) rfl rfl ?_)
  generalize ((w.alloc (.cells (hc l) 23)).alloc (.cells (bn 0) 150)).alloc (.cells (bn 0) 150) = W0 at *
  go_loopw [4] (fun d wr => ∃ i : Nat, i ≤ 32 ∧ d = .int .i64 i ∧ Hid (On w wr 23 150 l (lowd l i))) (fun d _ => (32 - intOf d).toNat)
  case atStart => exact ⟨0, by omega, rfl, J0⟩
  case round =>
    clear J0
    obtain ⟨i, hi, rfl, J⟩ := hrel
    by_cases hlt : i < 32
    · have hi4 : (i : Int) < 32 := by omega
      have hi5 : (i : Int) < 40 := by omega
      have i0 : (0 : Int) ≤ i := by omega
      have ca := hc_cell J.out.a i (by rw [HL.out]; exact hlt)
      have co := J.out.o.cell (show i < 40 by omega)
      have fo := J.out.o.fz i
      have hb := by8_lt l i
      have hw : IntKind.i64.wrap ((by8 l i : Nat) : Int) = ((by8 l i : Nat) : Int) := wrapI _ (by omega) (by omega)
      have hiw : IntKind.i64.wrap ((i : Int) + 1) = i + 1 := wrapI _ (by omega) (by omega)
      have HR : Hid (∀ j, (if j = i then by8 l i else lowd l i j) = lowd l (i + 1) j) := fun j => lowd_step l i j
      have LL := hide hlt
      clear hlt hi hb
      generalize by8 l i = x at *
      go_wp2
      have L4 := LL.out
      exact ⟨⟨i + 1, by omega, by go_num, hide ((J.out.set i x).congr (fun j _ => HR.out j))⟩, by simp [intOf]; omega⟩
    · have hke : i = 32 := by omega
      subst hke
      have H2 := (J.out.o.congr (f' := dg 256 (hv l)) (fun j _ => lowd_end l j)).heap
      go_wp2_with (first | refine wpList_loadA AN rfl _ rfl _ rfl (bn (hv l)) (bn_size _) 150 H2 ?_ | refine wpList_storeA AN rfl _ _ rfl _ (bn (hv l)) (bn_size _) (bn_one _) rfl rfl (bn 0) (bn_size 0) 150 J.out.r ?_)
      exact bodyPost_ret (v := .agg (bn (hv l))) (resA AN Tryz.results79 _ _ (w.heap.size + 1) 150 (bn (hv l)) (bn_size _) rfl (setRow_heap _ _ _ _ _ _ J.out.r)) rfl ⟨rfl, below_setRow J.out.bel (by omega) _⟩
end
end Go.Proofs.YtdkemnjkhclbkaaGreatDoor
