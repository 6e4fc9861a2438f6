/- Targets: the mathematics of bits; the contracts of target.said and Limit. The contracts of target.Limit and target.Expand. The contracts of the document's Of, raw and Limit. The contracts of the document's raw, Limit and Expand. -/
import Derived.Test.YtofddbjnncgmlaaGreatDoorX19
import Derived.Test.YtofddbjnncgmlaaGreatDoorX18
import Derived.Test.YtofddbjnncgmlaaGreatDoorX15
namespace Go.Proofs.YtofddbjnncgmlaaGreatDoor
open Go.RowKit
open Go.Deep
/-- The target that bits say. -/
def tgt (b : Nat) : Nat := if b / 16777216 < 3 then b % 8388608 / 2 ^ (8 * (3 - b / 16777216)) else b % 8388608 * 2 ^ (8 * (b / 16777216 - 3))
theorem and_low (b : Nat) (hb : b < 4294967296) : bits .and .u32 (b : Int) 8388607 = ((b % 8388608 : Nat) : Int) := by
  have e := u32_and_nat b 8388607 hb (by decide)
  rw [show ((8388607 : Nat) : Int) = 8388607 from rfl] at e
  rw [e]
  congr 1
  exact Nat.and_two_pow_sub_one_eq_mod b 23
theorem and_pow (b k : Nat) : b &&& 2 ^ k = if b / 2 ^ k % 2 = 1 then 2 ^ k else 0 := by
  apply Nat.eq_of_testBit_eq
  intro i
  rw [Nat.testBit_and, Nat.testBit_two_pow]
  by_cases h : k = i
  · subst h
    rw [Nat.testBit_eq_decide_div_mod_eq]
    by_cases h2 : b / 2 ^ k % 2 = 1 <;> simp [h2]
  · simp only [h, decide_false, Bool.and_false]
    split
    · rw [Nat.testBit_two_pow]
      simp [h]
    · simp
theorem and_bit (b : Nat) (hb : b < 4294967296) : (bits .and .u32 (b : Int) 8388608 != 0) = decide (b / 8388608 % 2 = 1) := by
  have e := u32_and_nat b 8388608 hb (by decide)
  rw [show ((8388608 : Nat) : Int) = 8388608 from rfl] at e
  have e2 : b &&& 8388608 = if b / 8388608 % 2 = 1 then 8388608 else 0 := and_pow b 23
  rw [e, e2]
  by_cases h : b / 8388608 % 2 = 1
  · rw [if_pos h]
    simp only [h]
    decide
  · rw [if_neg h]
    simp only [h]
    decide
theorem big_none (a k : Nat) (h : 256 ≤ k) : wn (a * 2 ^ k) = wn 0 ∧ decide (M ≤ a * 2 ^ k) = decide (0 < a) := by
  have e : 2 ^ k = M * 2 ^ (k - 256) := by rw [M_pow, ← Nat.pow_add, show 256 + (k - 256) = k by omega]
  have hp := Nat.two_pow_pos (k - 256)
  constructor
  · rw [e, Nat.mul_left_comm, ← wn_mod, Nat.mul_mod_right]
  · rw [Bool.eq_iff_iff]
    simp only [decide_eq_true_eq]
    constructor
    · intro h1
      rcases Nat.eq_zero_or_pos a with h2 | h2
      · subst h2
        rw [Nat.zero_mul] at h1
        exact absurd h1 (by decide)
      · exact h2
    · intro h1
      rw [e, Nat.mul_left_comm]
      exact Nat.le_mul_of_pos_right M (Nat.mul_pos h1 hp)
section
set_option maxRecDepth 10000
set_option maxHeartbeats 2000000
theorem said_any (b : Nat) (hb : b < 4294967296) (w : World) : Calls Tryz.prog 168 #[.int .u32 (b : Int)] w fun e w' => e = .returned (.tuple #[.agg (wn (tgt b)), .bool (decide (M ≤ tgt b))]) ∧ Below w.heap.size w w' := by
  have hl := and_low b hb
  have hmm : b % 8388608 < 18446744073709551616 := by omega
  have HF := hide fun W => from_any (b % 8388608) hmm W
  have hmM : b % 8388608 < M := Nat.lt_trans hmm (by decide)
  have hs : (b : Int) / 16777216 = ((b / 16777216 : Nat) : Int) := by omega
  have hs8 : b / 16777216 < 256 := by omega
  have w1 : IntKind.i64.wrap ((b / 16777216 : Nat) : Int) = ((b / 16777216 : Nat) : Int) := wrapI _ (by omega) (by omega)
  have w2 : IntKind.i64.wrap (((b / 16777216 : Nat) : Int) - 3) = ((b / 16777216 : Nat) : Int) - 3 := wrapI _ (by omega) (by omega)
  have w3 : IntKind.i64.wrap (8 * (((b / 16777216 : Nat) : Int) - 3)) = 8 * (((b / 16777216 : Nat) : Int) - 3) := wrapI _ (by omega) (by omega)
  have w4 : IntKind.u64.wrap ((b % 8388608 : Nat) : Int) = ((b % 8388608 : Nat) : Int) := wrapu _ (by omega) (by omega)
  have HL : Hid (∀ W, Calls Tryz.prog 255 #[.agg (wn (b % 8388608)), .int .i64 (8 * (((b / 16777216 : Nat) : Int) - 3))] W fun e w' => e = .returned (.tuple #[.agg (wn (tgt b)), .bool (decide (M ≤ tgt b))]) ∧ Below W.heap.size W w') := by
    intro W
    unfold tgt
    generalize b / 16777216 = s at *
    generalize b % 8388608 = u at *
    by_cases h3 : s < 3
    · rw [if_pos h3]
      have := left_neg u (8 * ((s : Int) - 3)) (8 * (3 - s)) hmM (by omega) (by unfold sh; rw [if_neg (by omega), if_neg (by omega)]; omega) (by omega) W
      have hlt : u / 2 ^ (8 * (3 - s)) < M := Nat.lt_of_le_of_lt (Nat.div_le_self _ _) hmM
      rw [show decide (M ≤ u / 2 ^ (8 * (3 - s))) = false by simp; omega]
      exact this
    · rw [if_neg h3]
      by_cases hk : 8 * (s - 3) ≤ 256
      · exact left_pos u (8 * ((s : Int) - 3)) (8 * (s - 3)) hmM (by unfold sh; rw [if_neg (by omega), if_neg (by omega)]; omega) hk W
      · have := left_pos u (8 * ((s : Int) - 3)) 256 hmM (by unfold sh; rw [if_neg (by omega), if_pos (by omega)]; rfl) (by omega) W
        rw [(big_none u 256 (by omega)).1, (big_none u 256 (by omega)).2] at this
        rw [(big_none u (8 * (s - 3)) (by omega)).1, (big_none u (8 * (s - 3)) (by omega)).2]
        exact this
  have J0 := hide (heap_alloc_last w (.cells (wn 0) 51))
  have B0 := hide ((Below.refl w.heap.size w).alloc (Nat.le_refl _) (.cells (wn 0) 51))
  generalize tgt b = T at *
  generalize decide (M ≤ T) = ov at *
  clear hmm hmM hs8
  generalize b % 8388608 = u at *
  generalize b / 16777216 = s at *
  go_enter Tryz.func168, Tryz.ntmps168
  go_upto_region 1 with (refine wpList_allocA AW rfl rfl ?_)
  generalize w.alloc (.cells (wn 0) 51) = W0 at *
  go_wp2_with (first | (go_at_call 240; refine (HF.out _).mono ?_; rintro e w1 ⟨rfl, b1⟩; have J1 := hide ((b1.block _ (lt_heap J0.out)).trans J0.out); have B1 := hide (below_next B0.out b1); clear b1) | (go_at_call 255; refine (HL.out _).mono ?_; rintro e w2 ⟨rfl, b2⟩; have J2 := hide ((b2.block _ (lt_heap J1.out)).trans J1.out); have B2 := hide (below_next B1.out b2); clear b2) | refine wpList_storeA AW rfl _ _ rfl _ (wn T) (wn_size _) (wn_one _) rfl rfl (wn 0) (wn_size 0) 51 J2.out ?_)
  exact bodyPost_ret (v := .tuple #[.agg (wn T), .bool ov]) (resA2 AW Tryz.results168 _ _ w.heap.size 51 (wn T) (wn_size _) rfl (setRow_heap _ _ _ _ _ _ J2.out) _ (by rfl)) rfl ⟨rfl, below_setRow B2.out (Nat.le_refl _) _⟩
end
end Go.Proofs.YtofddbjnncgmlaaGreatDoor
namespace Go.Proofs.YtofddbjnncgmlaaGreatDoor
open Go.RowKit
open Go.Deep
/-- The greatest target. -/
def Lm : Nat := 8388607 * 2 ^ 232
theorem Lm_eq : tgt 545259519 = Lm := by decide +kernel
theorem Lm_M : Lm < M := by decide +kernel
theorem Lm_ov : decide (M ≤ Lm) = false := by decide +kernel
/-- Bits that may be. -/
def okB (b : Nat) : Bool := decide (b / 8388608 % 2 = 0) && decide (0 < tgt b) && decide (tgt b ≤ Lm)
section
set_option maxRecDepth 10000
set_option maxHeartbeats 2000000
theorem limit_any (w : World) : Calls Tryz.prog 171 #[] w fun e w' => e = .returned (.agg (wn Lm)) ∧ Below w.heap.size w w' := by
  have HS : Hid (∀ W, Calls Tryz.prog 168 #[.int .u32 545259519] W fun e w' => e = .returned (.tuple #[.agg (wn Lm), .bool false]) ∧ Below W.heap.size W w') := fun W => by
    have := said_any 545259519 (by decide) W
    rw [Lm_eq, Lm_ov] at this
    exact this
  have J0 := hide (heap_alloc_last w (.cells (wn 0) 51))
  have B0 := hide ((Below.refl w.heap.size w).alloc (Nat.le_refl _) (.cells (wn 0) 51))
  generalize Lm = L at *
  go_enter Tryz.func171, Tryz.ntmps171
  go_upto_region 1 with (refine wpList_allocA AW rfl rfl ?_)
  generalize w.alloc (.cells (wn 0) 51) = W0 at *
  go_wp2_with (first | (go_at_call 168; refine (HS.out _).mono ?_; rintro e w1 ⟨rfl, b1⟩; have J1 := hide (((below_allocZ w1 (.cells (wn L) 51)).block _ (Nat.lt_of_lt_of_le (lt_heap J0.out) b1.size)).trans ((b1.block _ (lt_heap J0.out)).trans J0.out)); have B1 := hide (below_next (below_next B0.out b1) (below_allocZ w1 (.cells (wn L) 51))); have G1 := hide (heap_alloc_last w1 (.cells (wn L) 51)); clear b1) | refine wpList_allocA AW rfl rfl ?_ | refine wpList_store_newA AW rfl _ _ rfl _ rfl (wn L) (wn_size _) (wn_one _) rfl rfl ?_ | refine wpList_loadA AW rfl _ rfl _ rfl (wn L) (wn_size _) 51 G1.out ?_ | refine wpList_storeA AW rfl _ _ rfl _ (wn L) (wn_size _) (wn_one _) rfl rfl (wn 0) (wn_size 0) 51 J1.out ?_)
  exact bodyPost_ret (v := .agg (wn L)) (resA AW Tryz.results171 _ _ w.heap.size 51 (wn L) (wn_size _) rfl (setRow_heap _ _ _ _ _ _ J1.out)) rfl ⟨rfl, below_setRow B1.out (Nat.le_refl _) _⟩
/-- Expand, by what its four tests say. -/
theorem expand_core (b : Nat) (hb : b < 4294967296) (ov sg zb gt : Bool) (hov : decide (M ≤ tgt b) = ov) (hsg : decide (b / 8388608 % 2 = 1) = sg) (hzb : decide (tgt b % M = 0) = zb) (hgt : decide (0 < cmpZ (tgt b % M) Lm) = gt) (w : World) :
    Calls Tryz.prog 81 #[.int .u32 (b : Int)] w fun e w' => e = .returned (if ov || sg || zb || gt then .tuple #[.agg (wn 0), .int .i64 50] else .tuple #[.agg (wn (tgt b % M)), .int .i64 0]) ∧ Below w.heap.size w w' := by
  have HS := hide fun W => said_any b hb W
  rw [hov, ← wn_mod] at HS
  have hand := and_bit b hb
  rw [hsg] at hand
  have hT := Nat.mod_lt (tgt b) M_pos
  have HZ := hide fun W => zero_any _ hT W
  rw [hzb] at HZ
  have HL := hide fun W => limit_any W
  have HC := hide fun W => compare_any _ _ hT Lm_M W
  have J0 := hide (Rs.start1 w 51 0)
  generalize tgt b % M = T at *
  generalize Lm = L at *
  generalize cmpZ T L = z at *
  clear hov hsg hzb hT hb
  go_enter Tryz.func81, Tryz.ntmps81
  go_upto_region 1 with (refine wpList_allocA AW rfl rfl ?_)
  generalize w.alloc (.cells (wn 0) 51) = W0 at *
  go_upto_region 2 with (first | (go_at_call 168; refine (HS.out _).mono ?_; rintro e w1 ⟨rfl, be⟩; have J1 := hide ((J0.out.next be).new 51 T); clear be) | refine wpList_allocA AW rfl rfl ?_ | refine wpList_store_newA AW rfl _ _ rfl _ rfl (wn T) (wn_size _) (wn_one _) rfl rfl ?_)
  have LT := hide (lt_heap (J0.out.at (g := w.heap.size) (t := 51) (n := 0) (by simp)))
  generalize w1.alloc (.cells (wn T) 51) = W1 at *
  generalize w1.heap.size = g4 at *
  clear J0 HS
  have hc : ov = true ∨ (ov = false ∧ sg = true) ∨ (ov = false ∧ sg = false ∧ zb = true) ∨ (ov = false ∧ sg = false ∧ zb = false ∧ gt = true) ∨ (ov = false ∧ sg = false ∧ zb = false ∧ gt = false) := by
    cases ov <;> cases sg <;> cases zb <;> cases gt <;> simp
  have r2 := hide (J1.out.at (g := w.heap.size) (t := 51) (n := 0) (by simp))
  obtain ⟨I, hne, F, i0, h0, hJ, hcl⟩ := J1.out.cls
  rcases hc with rfl | ⟨rfl, rfl⟩ | ⟨rfl, rfl, rfl⟩ | ⟨rfl, rfl, rfl, rfl⟩ | ⟨rfl, rfl, rfl, rfl⟩
  all_goals
    refine wp_region_class_lit (by kernel_rfl) (by kernel_rfl) i0 h0 ?_
    repeat (first | ((go_big_quiet_want; refine quiet_loadA AW _ (by rfl) g4 (by rfl) (wn T) (wn_size _) 51 (Rs.of hJ (by simp)) ?_); go_big_quiet_on; simp only [Act.put, List.setIfInBounds_toArray, List.set_cons_succ, List.set_cons_zero]) | go_big_quiet_step (first | (go_at_call 169; exact class_of hcl.out (HZ.out _)) | (go_at_call 171; exact class_of hcl.out (HL.out _)) | (go_at_call 170; exact class_of hcl.out (HC.out _))))
    refine wpQuiet_nil ?_
    rintro _ ⟨iq, rfl⟩
    have J2 := hide (hJ.out iq)
    clear hJ hcl h0 HZ HL HC r2
    generalize F iq = W2 at *
    have r2 := hide (J2.out.at (g := w.heap.size) (t := 51) (n := 0) (by simp))
    have r4 := hide (J2.out.at (g := g4) (t := 51) (n := T) (by simp))
  iterate 4
    · go_wp2_with (first | refine wpList_buildA AW rfl rfl ?_ | refine wpList_storeA AW rfl _ _ rfl _ (wn 0) (wn_size _) (wn_one _) rfl rfl (wn 0) (wn_size 0) 51 r2.out ?_)
      exact bodyPost_ret (v := .tuple #[.agg (wn 0), .int .i64 50]) (resA2 AW Tryz.results81 _ _ w.heap.size 51 (wn 0) (wn_size _) rfl (setRow_heap _ _ _ _ _ _ r2.out) _ (by rfl)) rfl ⟨rfl, below_setRow J2.out.bel (Nat.le_refl _) _⟩
  · go_wp2_with (first | refine wpList_loadA AW rfl _ rfl g4 rfl (wn T) (wn_size _) 51 r4.out ?_ | refine wpList_storeA AW rfl _ _ rfl _ (wn T) (wn_size _) (wn_one _) rfl rfl (wn 0) (wn_size 0) 51 r2.out ?_)
    exact bodyPost_ret (v := .tuple #[.agg (wn T), .int .i64 0]) (resA2 AW Tryz.results81 _ _ w.heap.size 51 (wn T) (wn_size _) rfl (setRow_heap _ _ _ _ _ _ r2.out) _ (by rfl)) rfl ⟨rfl, below_setRow J2.out.bel (Nat.le_refl _) _⟩
end
theorem cmp_gt (m n : Nat) : (0 < cmpZ m n) = (n < m) := by
  apply propext
  unfold cmpZ
  split
  · simp; omega
  · split <;> simp <;> omega
theorem expand_yes (b : Nat) (hb : b < 4294967296) (h : okB b = true) (w : World) : Calls Tryz.prog 81 #[.int .u32 (b : Int)] w fun e w' => e = .returned (.tuple #[.agg (wn (tgt b)), .int .i64 0]) ∧ Below w.heap.size w w' := by
  unfold okB at h
  simp only [Bool.and_eq_true, decide_eq_true_eq] at h
  have hL := Lm_M
  have := expand_core b hb false false false false (by simp; omega) (by simp; omega) (by rw [Nat.mod_eq_of_lt (by omega)]; simp; omega) (by rw [Nat.mod_eq_of_lt (by omega)]; simp only [cmp_gt]; simp; omega) w
  rw [Nat.mod_eq_of_lt (by omega)] at this
  exact this
theorem expand_no (b : Nat) (hb : b < 4294967296) (h : okB b = false) (w : World) : Calls Tryz.prog 81 #[.int .u32 (b : Int)] w fun e w' => e = .returned (.tuple #[.agg (wn 0), .int .i64 50]) ∧ Below w.heap.size w w' := by
  have := expand_core b hb _ _ _ _ rfl rfl rfl rfl w
  rw [if_pos] at this
  · exact this
  · simp only [cmp_gt, Bool.or_eq_true, decide_eq_true_eq]
    unfold okB at h
    by_cases h1 : M ≤ tgt b
    · exact .inl (.inl (.inl h1))
    · rw [Nat.mod_eq_of_lt (show tgt b < M by omega)]
      by_cases h2 : b / 8388608 % 2 = 1
      · exact .inl (.inl (.inr h2))
      · by_cases h3 : tgt b = 0
        · exact .inl (.inr h3)
        · right
          rcases Nat.lt_or_ge Lm (tgt b) with h4 | h4
          · exact h4
          · rw [show decide (b / 8388608 % 2 = 0) = true by simp; omega, show decide (0 < tgt b) = true by simp; omega, show decide (tgt b ≤ Lm) = true by simp; omega] at h
            cases h
end Go.Proofs.YtofddbjnncgmlaaGreatDoor
namespace Go.Proofs.YtofddbjnncgmlaaGreatDoor
open Go.RowKit
open Go.Deep
/-- The number of 32 bytes. -/
def hv (l : List UInt8) : Nat := vs 256 (by8 l) 32
theorem hv_lt (l : List UInt8) : hv l < M := by
  have := vs_lt (B := 256) (f := by8 l) (k := 32) (fun i _ => by8_lt l i)
  have e : M = 256 ^ 32 := by decide +kernel
  rw [e]
  exact this
/-- The digits below i, zeros behind. -/
def lowd (l : List UInt8) (i j : Nat) : Nat := if j < i then by8 l j else 0
theorem lowd_step (l : List UInt8) (i j : Nat) : (if j = i then by8 l i else lowd l i j) = lowd l (i + 1) j := by
  unfold lowd
  by_cases e : j = i
  · rw [if_pos e, if_pos (by omega), e]
  · rw [if_neg e]
    by_cases e2 : j < i
    · rw [if_pos e2, if_pos (by omega)]
    · rw [if_neg e2, if_neg (by omega)]
theorem lowd_end (l : List UInt8) (j : Nat) : lowd l 32 j = dg 256 (hv l) j := by
  unfold lowd hv
  split
  · rename_i h
    exact (dg_vs (fun i _ => by8_lt l i) j h).symm
  · rename_i h
    have h1 := vs_lt (B := 256) (f := by8 l) (k := 32) (fun i _ => by8_lt l i)
    have h2 : 256 ^ 32 ≤ 256 ^ j := Nat.pow_le_pow_right (by decide) (by omega)
    rw [dg, Nat.div_eq_of_lt (by omega), Nat.zero_mod]
/-- Bytes, an answer's place, and a row of ints. -/
structure On (w W : World) (t u : TypeId) (l : List UInt8) (f : Nat → Nat) : Prop where
  a : W.heap[w.heap.size]? = some (.cells (hc l) t (0, 0))
  r : W.heap[w.heap.size + 1]? = some (.cells (bn 0) u (0, 0))
  o : Ni W (w.heap.size + 1 + 1) u 40 f
  bel : Below w.heap.size w W
theorem On.start (w : World) (t u : TypeId) (l : List UInt8) : On w (((w.alloc (.cells (hc l) t)).alloc (.cells (bn 0) u)).alloc (.cells (bn 0) u)) t u l (dg 256 0) := by
  obtain ⟨e1, e2, e3⟩ := blk3 w (.cells (hc l) t) (.cells (bn 0) u) (.cells (bn 0) u)
  exact ⟨e1, e2, Ni.of_heap e3, below3 w _ _ _⟩
theorem On.set {w W : World} {t u : TypeId} {l : List UInt8} {f : Nat → Nat} (j : On w W t u l f) (i x : Nat) : On w (W.setCell ⟨w.heap.size + 1 + 1, i, none⟩ (.int .i64 ((x : Nat) : Int))) t u l (fun k => if k = i then x else f k) :=
  ⟨(Below.heap_setCell _ _ _ _ (by simp <;> omega)).trans j.a, (Below.heap_setCell _ _ _ _ (by simp <;> omega)).trans j.r, j.o.set i x, j.bel.setCell (by simp <;> omega) _⟩
theorem On.congr {w W : World} {t u : TypeId} {l : List UInt8} {f f' : Nat → Nat} (j : On w W t u l f) (e : ∀ i, i < 40 → f i = f' i) : On w W t u l f' := ⟨j.a, j.r, j.o.congr e, j.bel⟩
theorem A49 : Arr 45 32 (hc zeros) := ⟨.inl ⟨_, _, Tryz.underlying45⟩, by kernel_rfl, fun w => by kernel_rfl, fun w => by kernel_rfl, by rw [hc_size]; rfl⟩
theorem hc_cell {W : World} {g : Nat} {t : TypeId} {l : List UInt8} (h : W.heap[g]? = some (.cells (hc l) t (0, 0))) (i : Nat) (hi : i < l.length) : W.cell? ⟨g, i, none⟩ = some (.int .u8 (by8 l i : Int)) :=
  World.rowIs.cell (row_of (f := fun i => .int .u8 (by8 l i : Int)) (hc_size l) h (fun k hk => hc_at l k hk)) hi
section
set_option maxRecDepth 10000
set_option maxHeartbeats 2000000
theorem ofN_any (l : List UInt8) (hl : l.length = 32) (w : World) : Calls Tryz.prog 265 #[.agg (hc l)] w fun e w' => e = .returned (.agg (bn (hv l))) ∧ Below w.heap.size w w' := by
  have J0 := hide ((On.start w 45 180 l).congr (f' := lowd l 0) (fun i _ => by rw [dg_zero]; simp [lowd]))
  have HL := hide hl
  clear hl
  go_enter Tryz.func265, Tryz.ntmps265
  go_wp2_with (first | refine wpList_boxA rfl _ rfl (hc l) rfl ?_ | refine wpList_allocA AN rfl rfl ?_ | refine wpList_buildA AN rfl rfl ?_ | refine wpList_store_newA AN rfl _ _ rfl _ rfl (bn 0) (bn_size _) (bn_one _) rfl rfl ?_)
  generalize ((w.alloc (.cells (hc l) 45)).alloc (.cells (bn 0) 180)).alloc (.cells (bn 0) 180) = W0 at *
  go_loopw [4] (fun d wr => ∃ i : Nat, i ≤ 32 ∧ d = .int .i64 i ∧ Hid (On w wr 45 180 l (lowd l i))) (fun d _ => (32 - intOf d).toNat)
  case atStart => exact ⟨0, by omega, rfl, J0⟩
  case round =>
    clear J0
    obtain ⟨i, hi, rfl, J⟩ := hrel
    by_cases hlt : i < 32
    · have hi4 : (i : Int) < 32 := by omega
      have hi5 : (i : Int) < 40 := by omega
      have i0 : (0 : Int) ≤ i := by omega
      have ca := hc_cell J.out.a i (by rw [HL.out]; exact hlt)
      have co := J.out.o.cell (show i < 40 by omega)
      have fo := J.out.o.fz i
      have hb := by8_lt l i
      have hw : IntKind.i64.wrap ((by8 l i : Nat) : Int) = ((by8 l i : Nat) : Int) := wrapI _ (by omega) (by omega)
      have hiw : IntKind.i64.wrap ((i : Int) + 1) = i + 1 := wrapI _ (by omega) (by omega)
      have HR : Hid (∀ j, (if j = i then by8 l i else lowd l i j) = lowd l (i + 1) j) := fun j => lowd_step l i j
      have LL := hide hlt
      clear hlt hi hb
      generalize by8 l i = x at *
      go_wp2
      have L4 := LL.out
      exact ⟨⟨i + 1, by omega, by go_num, hide ((J.out.set i x).congr (fun j _ => HR.out j))⟩, by simp [intOf]; omega⟩
    · have hke : i = 32 := by omega
      subst hke
      have H2 := (J.out.o.congr (f' := dg 256 (hv l)) (fun j _ => lowd_end l j)).heap
      go_wp2_with (first | refine wpList_loadA AN rfl _ rfl _ rfl (bn (hv l)) (bn_size _) 180 H2 ?_ | refine wpList_storeA AN rfl _ _ rfl _ (bn (hv l)) (bn_size _) (bn_one _) rfl rfl (bn 0) (bn_size 0) 180 J.out.r ?_)
      exact bodyPost_ret (v := .agg (bn (hv l))) (resA AN Tryz.results265 _ _ (w.heap.size + 1) 180 (bn (hv l)) (bn_size _) rfl (setRow_heap _ _ _ _ _ _ J.out.r)) rfl ⟨rfl, below_setRow J.out.bel (by omega) _⟩
end
end Go.Proofs.YtofddbjnncgmlaaGreatDoor
namespace Go.Proofs.YtofddbjnncgmlaaGreatDoor
open Go.RowKit
open Go.Deep
theorem pow8 (i : Nat) : 2 ^ (8 * i) = 256 ^ i := by rw [Nat.pow_mul]
/-- What raw has laid down behind i bytes. -/
def rawf (s u i j : Nat) : Nat := if s ≤ j + 3 ∧ j + 3 < s + i then dg 256 u (j + 3 - s) else 0
theorem rawf_zero (s u j : Nat) : dg 256 0 j = rawf s u 0 j := by rw [dg_zero, rawf, if_neg (by omega)]
theorem rawf_step (s u i k j : Nat) (h : k + 3 = s + i) : (if j = k then dg 256 u i else rawf s u i j) = rawf s u (i + 1) j := by
  unfold rawf
  by_cases e : j = k
  · rw [if_pos e, if_pos (by omega), show j + 3 - s = i by omega]
  · rw [if_neg e]
    by_cases e2 : s ≤ j + 3 ∧ j + 3 < s + i
    · rw [if_pos e2, if_pos (by omega)]
    · rw [if_neg e2, if_neg (by omega)]
theorem rawf_skip (s u i j : Nat) (hj : j < 40) (h : s + i < 3 ∨ 43 ≤ s + i) : rawf s u i j = rawf s u (i + 1) j := by
  unfold rawf
  by_cases e2 : s ≤ j + 3 ∧ j + 3 < s + i
  · rw [if_pos e2, if_pos (by omega)]
  · rw [if_neg e2, if_neg (by omega)]
theorem tgt_split (b : Nat) : tgt b = if b / 16777216 < 3 then b % 8388608 / 256 ^ (3 - b / 16777216) else b % 8388608 * 256 ^ (b / 16777216 - 3) := by
  unfold tgt
  rw [pow8, pow8]
theorem dg_high (u k : Nat) (hu : u < 8388608) (h : 3 ≤ k) : dg 256 u k = 0 := by
  have : 256 ^ 3 ≤ 256 ^ k := Nat.pow_le_pow_right (by decide) h
  rw [dg, Nat.div_eq_of_lt (by omega), Nat.zero_mod]
theorem rawf_end (b j : Nat) : rawf (b / 16777216) (b % 8388608) 3 j = dg 256 (tgt b) j := by
  have hu : b % 8388608 < 8388608 := by omega
  rw [tgt_split]
  generalize b % 8388608 = u at *
  generalize b / 16777216 = s at *
  unfold rawf
  split
  · rename_i h3
    split
    · rw [← dg_up]
      congr 1
      omega
    · rename_i h
      have e : 256 ^ j = 256 ^ (s - 3) * 256 ^ (j + 3 - s) := by rw [← Nat.pow_add]; congr 1; omega
      unfold dg
      rw [e, ← Nat.div_div_eq_div_mul, Nat.mul_div_cancel _ (Nat.pow_pos (by decide))]
  · rename_i h3
    split
    · rename_i h
      rw [← dg_up, dg_high u _ hu (by omega)]
    · rename_i h
      by_cases hj : j + 3 < s
      · have e : 256 ^ (s - 3) = 256 ^ j * (256 * 256 ^ (s - 3 - j - 1)) := by rw [← Nat.pow_succ', ← Nat.pow_add]; congr 1; omega
        rw [dg, e, Nat.mul_left_comm, Nat.mul_div_cancel_left _ (Nat.pow_pos (by decide)), Nat.mul_left_comm, Nat.mul_mod_right]
      · have e : 256 ^ j = 256 ^ (s - 3) * 256 ^ (j + 3 - s) := by rw [← Nat.pow_add]; congr 1; omega
        rw [dg, e, ← Nat.div_div_eq_div_mul, Nat.mul_div_cancel _ (Nat.pow_pos (by decide))]
        exact (dg_high u _ hu (by omega)).symm
theorem tgt_over (b i : Nat) (h3 : i < 3) (h : 43 ≤ b / 16777216 + i) (hd : dg 256 (b % 8388608) i ≠ 0) : ¬ tgt b < MB := by
  rw [tgt_split, if_neg (by omega)]
  unfold MB
  have h1 : 256 ^ i ≤ b % 8388608 := by
    rcases Nat.lt_or_ge (b % 8388608) (256 ^ i) with h' | h'
    · exact absurd (by rw [dg, Nat.div_eq_of_lt h', Nat.zero_mod]) hd
    · exact h'
  have h2 : 256 ^ 40 ≤ 256 ^ (i + (b / 16777216 - 3)) := Nat.pow_le_pow_right (by decide) (by omega)
  have h4 := Nat.mul_le_mul_right (256 ^ (b / 16777216 - 3)) h1
  rw [← Nat.pow_add] at h4
  omega
theorem tgt_fits (b : Nat) (hn : ∀ k, k < 3 → 43 ≤ b / 16777216 + k → dg 256 (b % 8388608) k = 0) : tgt b < MB := by
  have hu : b % 8388608 < 8388608 := by omega
  rw [tgt_split]
  generalize b % 8388608 = u at *
  generalize b / 16777216 = s at *
  split
  · have h1 := Nat.div_le_self u (256 ^ (3 - s))
    have h2 : 8388608 < MB := by decide +kernel
    omega
  · rename_i h3
    have h4 : u < 256 ^ (43 - s) := by
      have h40 := fun h => hn 0 (by omega) h
      have h41 := fun h => hn 1 (by omega) h
      have h42 := fun h => hn 2 (by omega) h
      unfold dg at h40 h41 h42
      rw [Nat.pow_zero] at h40
      rw [Nat.pow_one] at h41
      rw [show 256 ^ 2 = 65536 from rfl] at h42
      rcases (show 43 - s = 0 ∨ 43 - s = 1 ∨ 43 - s = 2 ∨ 3 ≤ 43 - s by omega) with h | h | h | h
      · rw [h, Nat.pow_zero]
        have := h40 (by omega)
        have := h41 (by omega)
        have := h42 (by omega)
        omega
      · rw [h, Nat.pow_one]
        have := h41 (by omega)
        have := h42 (by omega)
        omega
      · rw [h, show 256 ^ 2 = 65536 from rfl]
        have := h42 (by omega)
        omega
      · have : 256 ^ 3 ≤ 256 ^ (43 - s) := Nat.pow_le_pow_right (by decide) h
        omega
    rcases Nat.lt_or_ge s 44 with hs | hs
    · have h5 := Nat.mul_lt_mul_of_pos_right h4 (Nat.pow_pos (n := s - 3) (show 0 < 256 by decide))
      rw [← Nat.pow_add, show 43 - s + (s - 3) = 40 by omega] at h5
      exact h5
    · rw [show 43 - s = 0 by omega, Nat.pow_zero] at h4
      rw [show u = 0 by omega, Nat.zero_mul]
      exact MB_pos
/-- An answer's place, and a row. -/
structure Rw (w W : World) (f : Nat → Nat) : Prop where
  r : W.heap[w.heap.size]? = some (.cells (bn 0) 180 (0, 0))
  o : Ni W (w.heap.size + 1) 180 40 f
  bel : Below w.heap.size w W
theorem Rw.start (w : World) : Rw w ((w.alloc (.cells (bn 0) 180)).alloc (.cells (bn 0) 180)) (dg 256 0) :=
  ⟨(blk2x w _ _).1, Ni.of_heap (blk2x w _ _).2, below2x w _ _⟩
theorem Rw.set {w W : World} {f : Nat → Nat} (j : Rw w W f) (i x : Nat) : Rw w (W.setCell ⟨w.heap.size + 1, i, none⟩ (.int .i64 ((x : Nat) : Int))) (fun k => if k = i then x else f k) :=
  ⟨(Below.heap_setCell _ _ _ _ (by simp <;> omega)).trans j.r, j.o.set i x, j.bel.setCell (by simp <;> omega) _⟩
theorem Rw.congr {w W : World} {f f' : Nat → Nat} (j : Rw w W f) (e : ∀ i, i < 40 → f i = f' i) : Rw w W f' := ⟨j.r, j.o.congr e, j.bel⟩
section
set_option maxRecDepth 10000
set_option maxHeartbeats 2000000
theorem raw_core (b : Nat) (hb : b < 4294967296) (w : World) : Calls Tryz.prog 262 #[.int .u32 (b : Int)] w fun e w' => (e = .returned (.tuple #[.agg (bn (tgt b)), .bool true]) ∧ tgt b < MB ∨ e = .returned (.tuple #[.agg (bn 0), .bool false]) ∧ ¬ tgt b < MB) ∧ Below w.heap.size w w' := by
  have hl := and_low b hb
  have hs : (b : Int) / 16777216 = ((b / 16777216 : Nat) : Int) := by omega
  have hs8 : b / 16777216 < 256 := by omega
  have hu8 : b % 8388608 < 8388608 := by omega
  have J0 := hide ((Rw.start w).congr (fun j _ => rawf_zero (b / 16777216) (b % 8388608) j))
  have w1 : IntKind.i64.wrap ((b / 16777216 : Nat) : Int) = ((b / 16777216 : Nat) : Int) := wrapI _ (by omega) (by omega)
  have w2 : IntKind.i64.wrap (((b / 16777216 : Nat) : Int) - 3) = ((b / 16777216 : Nat) : Int) - 3 := wrapI _ (by omega) (by omega)
  have HE : Hid (∀ j, rawf (b / 16777216) (b % 8388608) 3 j = dg 256 (tgt b) j) := fun j => rawf_end b j
  have HO : Hid (∀ i, i < 3 → 43 ≤ b / 16777216 + i → dg 256 (b % 8388608) i ≠ 0 → ¬ tgt b < MB) := fun i h3 h hd => tgt_over b i h3 h hd
  have HFt : Hid ((∀ k, k < 3 → 43 ≤ b / 16777216 + k → dg 256 (b % 8388608) k = 0) → tgt b < MB) := tgt_fits b
  generalize tgt b = T at *
  generalize b % 8388608 = u at *
  generalize b / 16777216 = s at *
  have SU := hide (And.intro hs8 hu8)
  clear hs8 hu8 hb
  go_enter Tryz.func262, Tryz.ntmps262
  go_wp2_with (first | refine wpList_allocA AN rfl rfl ?_ | refine wpList_buildA AN rfl rfl ?_ | refine wpList_store_newA AN rfl _ _ rfl _ rfl (bn 0) (bn_size _) (bn_one _) rfl rfl ?_)
  generalize (w.alloc (.cells (bn 0) 180)).alloc (.cells (bn 0) 180) = W0 at *
  go_loopw [7, 8, 9] (fun d _ _ wr => ∃ i : Nat, i ≤ 3 ∧ d = .int .i64 i ∧ Hid (Rw w wr (rawf s u i)) ∧ Hid (∀ k, k < i → 43 ≤ s + k → dg 256 u k = 0)) (fun d _ _ _ => (3 - intOf d).toNat)
  case atStart => exact ⟨0, by omega, rfl, J0, fun k hk => by omega⟩
  case round =>
    clear J0
    obtain ⟨i, hi, rfl, J, N⟩ := hrel
    by_cases hlt : i < 3
    · obtain ⟨hs8, hu8⟩ := SU.out
      have hi4 : (i : Int) < 3 := by omega
      have i0 : (0 : Int) ≤ i := by omega
      have c0 : IntKind.i64.wrap ((s : Int) - 3 + i) = (s : Int) - 3 + i := wrapI _ (by omega) (by omega)
      have c1 : IntKind.i64.wrap (8 * (i : Int)) = ((8 * i : Nat) : Int) := by rw [wrapI _ (by omega) (by omega)]; omega
      have c2 : IntKind.u64.wrap ((8 * i : Nat) : Int) = ((8 * i : Nat) : Int) := wrapu _ (by omega) (by omega)
      have c3 : ((8 * i : Nat) : Int) ≤ 64 := by omega
      have c4 : (0 : Int) ≤ ((8 * i : Nat) : Int) := by omega
      have hmn : min (8 * i) 32 = 8 * i := by omega
      have x0 : (u : Int) / 2 ^ (8 * i) = ((u / 2 ^ (8 * i) : Nat) : Int) := by simp
      have hdg : u / 2 ^ (8 * i) % 256 = dg 256 u i := by rw [pow8]; rfl
      have x1 : ((u / 2 ^ (8 * i) : Nat) : Int) % 256 = ((dg 256 u i : Nat) : Int) := by rw [← hdg]; omega
      have x2 : Int.tmod ((u / 2 ^ (8 * i) : Nat) : Int) 256 = ((dg 256 u i : Nat) : Int) := by rw [Int.tmod_eq_emod_of_nonneg (Int.natCast_nonneg _)]; exact x1
      have hdl := dg_lt (B := 256) (by decide) u i
      have x3 : IntKind.i64.wrap ((dg 256 u i : Nat) : Int) = ((dg 256 u i : Nat) : Int) := wrapI _ (by omega) (by omega)
      have hiw : IntKind.i64.wrap ((i : Int) + 1) = i + 1 := wrapI _ (by omega) (by omega)
      have LL := hide hlt
      have NX : Hid (dg 256 u i = 0 ∨ s + i < 43 → ∀ k, k < i + 1 → 43 ≤ s + k → dg 256 u k = 0) := fun h k hk h43 => by
        rcases Nat.lt_or_ge k i with h' | h'
        · exact N.out k h' h43
        · have e : k = i := by omega
          subst e
          rcases h with h | h
          · exact h
          · omega
      have HOi := hide (HO.out i hlt)
      rcases (show s + i < 3 ∨ (3 ≤ s + i ∧ s + i < 43) ∨ 43 ≤ s + i by omega) with hc | hc | hc
      · have t1 : ¬ (0 : Int) ≤ (s : Int) - 3 + i := by omega
        have t2 : ¬ (40 : Int) ≤ (s : Int) - 3 + i := by omega
        have HR : Hid (∀ j, j < 40 → rawf s u i j = rawf s u (i + 1) j) := fun j hj => rawf_skip s u i j hj (.inl hc)
        have NN := hide (NX.out (.inr (by omega)))
        clear hs8 hu8 hlt hi hdl hdg hc
        generalize u / 2 ^ (8 * i) = z at *
        generalize 8 * i = r at *
        generalize dg 256 u i = dd at *
        go_wp2
        have L4 := LL.out
        exact ⟨⟨i + 1, by omega, by go_num, hide (J.out.congr HR.out), NN⟩, by simp [intOf]; omega⟩
      · obtain ⟨k, hk⟩ : ∃ k, k + 3 = s + i := ⟨s + i - 3, by omega⟩
        have ek : (s : Int) - 3 + i = (k : Int) := by omega
        replace c0 : IntKind.i64.wrap ((s : Int) - 3 + i) = (k : Int) := c0.trans ek
        have t1 : (0 : Int) ≤ (k : Int) := by omega
        have t2 : (k : Int) < 40 := by omega
        have t3 : ¬ (40 : Int) ≤ (k : Int) := by omega
        have HR : Hid (∀ j, (if j = k then dg 256 u i else rawf s u i j) = rawf s u (i + 1) j) := fun j => rawf_step s u i k j hk
        have NN := hide (NX.out (.inr hc.2))
        have co := J.out.o.cell (show k < 40 by omega)
        have fo := J.out.o.fz k
        clear hs8 hu8 hlt hi hdl hdg hc hk ek
        generalize u / 2 ^ (8 * i) = z at *
        generalize 8 * i = r at *
        generalize dg 256 u i = dd at *
        go_wp2
        have L4 := LL.out
        exact ⟨⟨i + 1, by omega, by go_num, hide ((J.out.set k dd).congr (fun j _ => HR.out j)), NN⟩, by simp [intOf]; omega⟩
      · have t1 : (0 : Int) ≤ (s : Int) - 3 + i := by omega
        have t2 : ¬ (s : Int) - 3 + i < 40 := by omega
        have t3 : (40 : Int) ≤ (s : Int) - 3 + i := by omega
        have HR : Hid (∀ j, j < 40 → rawf s u i j = rawf s u (i + 1) j) := fun j hj => rawf_skip s u i j hj (.inr hc)
        by_cases hz : dg 256 u i = 0
        · have NN := hide (NX.out (.inl hz))
          have hz2 : (((dg 256 u i : Nat) : Int) != 0) = false := by simp [hz]
          clear hs8 hu8 hlt hi hdl hdg hc hz
          generalize u / 2 ^ (8 * i) = z at *
          generalize 8 * i = r at *
          generalize dg 256 u i = dd at *
          go_wp2
          have L4 := LL.out
          exact ⟨⟨i + 1, by omega, by go_num, hide (J.out.congr HR.out), NN⟩, by simp [intOf]; omega⟩
        · have NO := hide (HOi.out hc hz)
          have hz2 : (((dg 256 u i : Nat) : Int) != 0) = true := by simp [hz]
          have r0 := hide J.out.r
          clear hs8 hu8 hlt hi hdl hdg hc hz
          generalize u / 2 ^ (8 * i) = z at *
          generalize 8 * i = r at *
          generalize dg 256 u i = dd at *
          go_wp2_with (first | refine wpList_buildA AN rfl rfl ?_ | refine wpList_storeA AN rfl _ _ rfl _ (bn 0) (bn_size _) (bn_one _) rfl rfl (bn 0) (bn_size 0) 180 r0.out ?_)
          exact bodyPost_ret (v := .tuple #[.agg (bn 0), .bool false]) (resA2 AN Tryz.results262 _ _ w.heap.size 180 (bn 0) (bn_size _) rfl (setRow_heap _ _ _ _ _ _ r0.out) _ (by rfl)) rfl ⟨.inr ⟨rfl, Nat.le_of_not_lt NO.out⟩, below_setRow J.out.bel (Nat.le_refl _) _⟩
    · have hke : i = 3 := by omega
      subst hke
      have H2 := hide (J.out.o.congr (f' := dg 256 T) (fun j _ => HE.out j)).heap
      have FF := hide (HFt.out N.out)
      have r0 := hide J.out.r
      go_wp2_with (first | refine wpList_loadA AN rfl _ rfl _ rfl (bn T) (bn_size _) 180 H2.out ?_ | refine wpList_storeA AN rfl _ _ rfl _ (bn T) (bn_size _) (bn_one _) rfl rfl (bn 0) (bn_size 0) 180 r0.out ?_)
      exact bodyPost_ret (v := .tuple #[.agg (bn T), .bool true]) (resA2 AN Tryz.results262 _ _ w.heap.size 180 (bn T) (bn_size _) rfl (setRow_heap _ _ _ _ _ _ r0.out) _ (by rfl)) rfl ⟨.inl ⟨rfl, FF.out⟩, below_setRow J.out.bel (Nat.le_refl _) _⟩
end
theorem raw_any (b : Nat) (hb : b < 4294967296) (w : World) : Calls Tryz.prog 262 #[.int .u32 (b : Int)] w fun e w' => e = .returned (.tuple #[.agg (bn (if tgt b < MB then tgt b else 0)), .bool (decide (tgt b < MB))]) ∧ Below w.heap.size w w' := by
  refine (raw_core b hb w).mono ?_
  rintro e w' ⟨h, bel⟩
  refine ⟨?_, bel⟩
  rcases h with ⟨rfl, h⟩ | ⟨rfl, h⟩ <;> simp [h]
end Go.Proofs.YtofddbjnncgmlaaGreatDoor
