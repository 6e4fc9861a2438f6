/- The contract of target.Compact; awake. The contract of wide.Of. The contracts of target.Meets and the document's Meets. Headers: their cells and bytes; the contracts of block.Head, block.ID, block.Meets. -/
import Derived.Test.YtofddbjnncgmlaaGreatDoorX21
import Derived.Test.YtofddbjnncgmlaaGreatDoorX17
import Derived.Test.YtofddbjnncgmlaaGreatDoorX19
import Derived.Test.YtofddbjnncgmlaaGreatDoorX12
namespace Go.Proofs.YtofddbjnncgmlaaGreatDoor
open Go.RowKit
open Go.Deep
/-- How many bytes a number has; its three highest; its bits. -/
def szB (m : Nat) : Nat := (bl m + 7) / 8
def nmB (m : Nat) : Nat := if szB m < 3 then m * 2 ^ (8 * (3 - szB m)) else m / 2 ^ (8 * (szB m - 3))
def cpt (m : Nat) : Nat := if 8388608 ≤ nmB m then (szB m + 1) * 16777216 + nmB m / 256 else szB m * 16777216 + nmB m
theorem szB_le (m : Nat) (hm : m < M) : szB m ≤ 32 := by
  have := bl_le_of m 256 (by rw [← M_pow]; exact hm)
  unfold szB
  omega
theorem szB_lt (m : Nat) : m < 2 ^ (8 * szB m) := by
  have h := bl_lt m
  have : 2 ^ bl m ≤ 2 ^ (8 * szB m) := Nat.pow_le_pow_right (by decide) (by unfold szB; omega)
  omega
theorem nmB_lt (m : Nat) : nmB m < 16777216 := by
  have h := szB_lt m
  unfold nmB
  split
  · rename_i h3
    have e : (16777216 : Nat) = 2 ^ (8 * szB m) * 2 ^ (8 * (3 - szB m)) := by rw [← Nat.pow_add, show 8 * szB m + 8 * (3 - szB m) = 24 by omega]
    rw [e]
    exact Nat.mul_lt_mul_of_pos_right h (Nat.two_pow_pos _)
  · rename_i h3
    rw [Nat.div_lt_iff_lt_mul (Nat.two_pow_pos _)]
    have e : (16777216 : Nat) * 2 ^ (8 * (szB m - 3)) = 2 ^ (8 * szB m) := by rw [show (16777216 : Nat) = 2 ^ 24 from rfl, ← Nat.pow_add, show 24 + 8 * (szB m - 3) = 8 * szB m by omega]
    rw [e]
    exact h
theorem and_bit64 (n : Nat) (hn : n < 16777216) : (bits .and .u64 (n : Int) 8388608 != 0) = decide (8388608 ≤ n) := by
  have e := u64_and_nat n 8388608 (by omega) (by decide)
  rw [show ((8388608 : Nat) : Int) = 8388608 from rfl] at e
  have e2 : n &&& 8388608 = if n / 8388608 % 2 = 1 then 8388608 else 0 := and_pow n 23
  rw [e, e2]
  by_cases h : 8388608 ≤ n
  · rw [if_pos (by omega)]
    simp only [h]
    decide
  · rw [if_neg (by omega)]
    simp only [h]
    decide
theorem or_size (s n : Nat) (hs : s ≤ 255) (hn : n < 16777216) : bits .or .u32 ((s : Int) % 4294967296 * 16777216 % 4294967296) ((n : Int) % 4294967296) = ((s * 16777216 + n : Nat) : Int) := by
  rw [show (s : Int) % 4294967296 * 16777216 % 4294967296 = ((s * 16777216 : Nat) : Int) by omega, show (n : Int) % 4294967296 = (n : Int) by omega]
  rw [u32_or_nat _ _ (by omega) (by omega)]
  congr 1
  have := Nat.two_pow_add_eq_or_of_lt (i := 24) (b := n) hn s
  rw [Nat.mul_comm s, show (16777216 : Nat) = 2 ^ 24 from rfl, this]
section
set_option maxRecDepth 10000
set_option maxHeartbeats 2000000
theorem compact_any (m : Nat) (hm : m < M) (w : World) : Calls Tryz.prog 336 #[.agg (wn m)] w fun e w' => e = .returned (.int .u32 ((cpt m : Nat) : Int)) ∧ Below w.heap.size w w' := by
  have HB := hide fun W => bits_any m hm W
  have hs := szB_le m hm
  have hn := nmB_lt m
  have hb := bl_le_of m 256 (by rw [← M_pow]; exact hm)
  have hnM : nmB m < M := Nat.lt_trans hn (by decide)
  have HL := hide fun W => low_yes (nmB m) hnM (by omega) W
  have HR : Hid (∀ W, Calls Tryz.prog 355 #[.agg (wn m), .int .i64 (8 * ((szB m : Int) - 3))] W fun e w' => e = .returned (.agg (wn (nmB m))) ∧ Below W.heap.size W w') := by
    intro W
    unfold nmB
    by_cases h3 : szB m < 3
    · rw [if_pos h3]
      exact right_neg m (8 * ((szB m : Int) - 3)) (8 * (3 - szB m)) (by omega) (by unfold sh; rw [if_neg (by omega), if_neg (by omega)]; omega) (by omega) W
    · rw [if_neg h3]
      exact right_pos m (8 * ((szB m : Int) - 3)) (8 * (szB m - 3)) hm (by unfold sh; rw [if_neg (by omega), if_neg (by omega)]; omega) (by omega) W
  have w1 : IntKind.i64.wrap ((bl m : Int) + 8) = (bl m : Int) + 8 := wrapI _ (by omega) (by omega)
  have w2 : IntKind.i64.wrap ((bl m : Int) + 8 - 1) = (bl m : Int) + 8 - 1 := wrapI _ (by omega) (by omega)
  have w3 : ((bl m : Int) + 8 - 1) / 8 = (szB m : Int) := by unfold szB; omega
  have w3t : Int.tdiv ((bl m : Int) + 8 - 1) 8 = (szB m : Int) := by rw [Int.tdiv_eq_ediv_of_nonneg (by omega)]; exact w3
  have w8 : wrap64 (szB m : Int) = (szB m : Int) := by unfold wrap64; omega
  have w4 : IntKind.i64.wrap ((szB m : Int) - 3) = (szB m : Int) - 3 := wrapI _ (by omega) (by omega)
  have w5 : IntKind.i64.wrap (8 * ((szB m : Int) - 3)) = 8 * ((szB m : Int) - 3) := wrapI _ (by omega) (by omega)
  have w6 : IntKind.i64.wrap ((szB m : Int) + 1) = ((szB m + 1 : Nat) : Int) := by rw [wrapI _ (by omega) (by omega)]; omega
  have w7 : ((nmB m : Nat) : Int) / 256 = ((nmB m / 256 : Nat) : Int) := by omega
  have hab := and_bit64 (nmB m) hn
  have o1 := or_size (szB m) (nmB m) (by omega) hn
  have o2 := or_size (szB m + 1) (nmB m / 256) (by omega) (by omega)
  have J0 := hide (Rs.start1 w 51 m)
  unfold cpt
  generalize hbl : (bl m : Int) = B at *
  generalize szB m + 1 = s1 at *
  generalize nmB m / 256 = n1 at *
  generalize szB m = s at *
  generalize nmB m = n at *
  clear hs hb hbl hnM hm
  by_cases hge : 8388608 ≤ n
  · rw [if_pos hge]
    rw [show decide (8388608 ≤ n) = true by simp [hge]] at hab
    obtain ⟨C, hC⟩ : ∃ C, C = s1 * 16777216 + n1 := ⟨_, rfl⟩
    rw [← hC] at o2 ⊢
    clear hC
    clear hge hn o1
    go_enter Tryz.func336, Tryz.ntmps336
    go_upto_region 1 with (refine wpList_boxA rfl _ rfl (wn m) rfl ?_)
    generalize w.alloc (.cells (wn m) 51) = W0 at *
    have r0 := hide (J0.out.at (g := w.heap.size) (t := 51) (n := m) (by simp))
    go_wp2_with (first | refine wpList_loadA AW rfl _ rfl w.heap.size rfl (wn m) (wn_size _) 51 r0.out ?_ | refine wpList_loadA AW rfl _ rfl w.heap.size rfl (wn m) (wn_size _) 51 r1.out ?_ | (go_at_call 332; refine (HB.out _).mono ?_; rintro e w1 ⟨rfl, be⟩; have J1 := hide (J0.out.next be); have r1 := hide (J1.out.at (g := w.heap.size) (t := 51) (n := m) (by simp)); clear be) | (go_at_call 355; refine (HR.out _).mono ?_; rintro e w2 ⟨rfl, be⟩; have J2 := hide (J1.out.next be); clear be) | (go_at_call 295; refine (HL.out _).mono ?_; rintro e w3 ⟨rfl, be⟩; have J3 := hide (J2.out.next be); clear be))
    go_ret
    exact ⟨rfl, J3.out.bel⟩
  · rw [if_neg hge]
    rw [show decide (8388608 ≤ n) = false by simp [hge]] at hab
    obtain ⟨C, hC⟩ : ∃ C, C = s * 16777216 + n := ⟨_, rfl⟩
    rw [← hC] at o1 ⊢
    clear hC
    clear hge hn o2
    go_enter Tryz.func336, Tryz.ntmps336
    go_upto_region 1 with (refine wpList_boxA rfl _ rfl (wn m) rfl ?_)
    generalize w.alloc (.cells (wn m) 51) = W0 at *
    have r0 := hide (J0.out.at (g := w.heap.size) (t := 51) (n := m) (by simp))
    go_wp2_with (first | refine wpList_loadA AW rfl _ rfl w.heap.size rfl (wn m) (wn_size _) 51 r0.out ?_ | refine wpList_loadA AW rfl _ rfl w.heap.size rfl (wn m) (wn_size _) 51 r1.out ?_ | (go_at_call 332; refine (HB.out _).mono ?_; rintro e w1 ⟨rfl, be⟩; have J1 := hide (J0.out.next be); have r1 := hide (J1.out.at (g := w.heap.size) (t := 51) (n := m) (by simp)); clear be) | (go_at_call 355; refine (HR.out _).mono ?_; rintro e w2 ⟨rfl, be⟩; have J2 := hide (J1.out.next be); clear be) | (go_at_call 295; refine (HL.out _).mono ?_; rintro e w3 ⟨rfl, be⟩; have J3 := hide (J2.out.next be); clear be))
    go_ret
    exact ⟨rfl, J3.out.bel⟩
theorem okB_lim : okB 545259519 = true := by decide +kernel
theorem work_lim : (M - 1 - Lm) / (Lm + 1) + 1 = 2 := by decide +kernel
theorem cpt_lim : cpt Lm = 545259519 := by decide +kernel
end
end Go.Proofs.YtofddbjnncgmlaaGreatDoor
namespace Go.Proofs.YtofddbjnncgmlaaGreatDoor
open Go.RowKit
open Go.Deep
theorem hszU (w : World) (o : Obj) : (w.alloc o).heap.size = w.heap.size + 1 := by simp
/-- A byte more in a number. -/
theorem put_byte (x b i : Nat) (hx : x < 256 ^ i) (hb : b < 256) : b * 2 ^ (8 * (i % 8)) < 18446744073709551616 ∧ wd x (i / 8) ||| b * 2 ^ (8 * (i % 8)) = wd (x + b * 256 ^ i) (i / 8) ∧ ∀ j, j ≠ i / 8 → wd (x + b * 256 ^ i) j = wd x j := by
  have hp : 256 ^ i = 2 ^ (8 * i) := by rw [Nat.pow_mul]
  rw [hp] at hx ⊢
  have e : x + b * 2 ^ (8 * i) = b * 2 ^ (8 * i) ||| x := by
    rw [Nat.mul_comm, ← Nat.two_pow_add_eq_or_of_lt hx, Nat.add_comm]
  have hbt : ∀ n, 8 ≤ n → b.testBit n = false := fun n hn => Nat.testBit_lt_two_pow (Nat.lt_of_lt_of_le hb (show 256 ≤ 2 ^ n from Nat.pow_le_pow_right (n := 2) (i := 8) (j := n) (by decide) hn))
  refine ⟨?_, ?_, fun j hj => ?_⟩
  · have h1 : b * 2 ^ (8 * (i % 8)) < 2 ^ 8 * 2 ^ (8 * (i % 8)) := Nat.mul_lt_mul_of_pos_right hb (Nat.two_pow_pos _)
    have h2 : 2 ^ 8 * 2 ^ (8 * (i % 8)) ≤ 2 ^ 64 := by
      rw [← Nat.pow_add]
      exact Nat.pow_le_pow_right (by decide) (by omega)
    omega
  · apply word_ext
    intro t
    rw [e, wd_bit, Nat.testBit_or, Nat.testBit_or, wd_bit, Nat.testBit_mul_two_pow, Nat.testBit_mul_two_pow]
    by_cases ht : t < 64
    · rw [show (decide (8 * i ≤ 64 * (i / 8) + t)) = decide (8 * (i % 8) ≤ t) by rw [Bool.eq_iff_iff]; simp; omega]
      by_cases h8 : 8 * (i % 8) ≤ t
      · rw [show 64 * (i / 8) + t - 8 * i = t - 8 * (i % 8) by omega]
        simp [ht, Bool.or_comm]
      · simp [ht, h8]
    · rw [hbt (t - 8 * (i % 8)) (by omega)]
      simp [ht]
  · apply word_ext
    intro t
    rw [e, wd_bit, wd_bit, Nat.testBit_or, Nat.testBit_mul_two_pow]
    by_cases ht : t < 64
    · by_cases h8 : 8 * i ≤ 64 * j + t
      · rw [hbt (64 * j + t - 8 * i) (by omega)]
        simp
      · simp [h8]
    · simp [ht]
/-- A byte out of an array that is a value. -/
theorem run_indexH (l : List UInt8) (i : Nat) (h : i < l.length) (hl : l.length = 32) (w : World) : (Instr.index 46 (.agg (hc l)) (.int .i64 (i : Int))).run Tryz.prog w = .ok (.int .u8 ((by8 l i : Nat) : Int)) w := by
  have hp : (Go.part 5 (hc l) (i * 1)).run Tryz.prog w = .ok (.int .u8 ((by8 l i : Nat) : Int)) w := by
    simp [Go.part, isAgg, run_underlying Tryz.underlying5, hc_at l i h]
  rw [Nat.mul_one] at hp
  have h32 : i < 32 := by omega
  simp [Instr.index, asIntOf, run_underlying Tryz.underlying46, h32, hp]
theorem wpList_indexH {w : World} {ops : Array Oper} {rest : List Oper} {o : Oper} {a : Act} {Q : Exit → Act → World → Prop} (hgd : o.guard = none) (x y : Operand) (ho : o.op = .index 46 x y) (l : List UInt8) (hl : l.length = 32) (i : Nat) (hx : a.eval x = .agg (hc l)) (hy : a.eval y = .int .i64 (i : Int)) (hi : i < l.length)
    (h : wpList Tryz.prog ops Q rest (a.put o.dst (.int .u8 ((by8 l i : Nat) : Int))) w) : wpList Tryz.prog ops Q (o :: rest) a w := by
  refine wpList_plain hgd fun K hK => ?_
  unfold Oper.wp execOp
  simp only [ho, hx, hy, run_indexH l i hi hl w, Sem.run_bind, Result.andThen_ok, Sem.run_pure]
  exact hK _ _ h
/-- Bytes, an answer's place, and a row of words. -/
structure Ow (w W : World) (l : List UInt8) (x : Nat) : Prop where
  a : W.heap[w.heap.size]? = some (.cells (hc l) 46 (0, 0))
  r : W.heap[w.heap.size + 1]? = some (.cells (wn 0) 51 (0, 0))
  o : Nd W (w.heap.size + 1 + 1) 51 4 (wd x)
  bel : Below w.heap.size w W
theorem Ow.start (w : World) (l : List UInt8) : Ow w (((w.alloc (.cells (hc l) 46)).alloc (.cells (wn 0) 51)).alloc (.cells (wn 0) 51)) l 0 := by
  obtain ⟨e1, e2, e3⟩ := blk3 w (.cells (hc l) 46) (.cells (wn 0) 51) (.cells (wn 0) 51)
  exact ⟨e1, e2, Nd.of_heap e3, below3 w _ _ _⟩
theorem Ow.set {w W : World} {l : List UInt8} {x : Nat} (j : Ow w W l x) (i v y : Nat) (e : ∀ k, (if k = i then v else wd x k) = wd y k) : Ow w (W.setCell ⟨w.heap.size + 1 + 1, i, none⟩ (.int .u64 ((v : Nat) : Int))) l y :=
  ⟨(Below.heap_setCell _ _ _ _ (by simp <;> omega)).trans j.a, (Below.heap_setCell _ _ _ _ (by simp <;> omega)).trans j.r, (j.o.set i v).congr (fun k _ => e k), j.bel.setCell (by simp <;> omega) _⟩
theorem Ow.drew {w W : World} {l : List UInt8} {x : Nat} (j : Ow w W l x) : Ow w W.drew l x := ⟨j.a, j.r, j.o, j.bel.drew⟩
section
set_option maxRecDepth 10000
set_option maxHeartbeats 2000000
theorem ofW_any (l : List UInt8) (hl : l.length = 32) (w : World) : Calls Tryz.prog 174 #[.agg (hc l)] w fun e w' => e = .returned (.agg (wn (vs 256 (by8 l) 32))) ∧ Below w.heap.size w w' := by
  have J0 : Hid (Ow w (((w.alloc (.cells (hc l) 46)).alloc (.cells (wn 0) 51)).alloc (.cells (wn 0) 51)) l (vs 256 (by8 l) 0)) := Ow.start w l
  have a0 := hide J0.out.a
  have HL := hide hl
  have hcs : (hc l).size = 32 := by rw [hc_size]; exact hl
  have HCS := hide hcs
  clear hl hcs
  go_enter Tryz.func174, Tryz.ntmps174
  go_upto_region 2 with (first | refine wpList_boxA rfl _ rfl (hc l) rfl ?_ | refine wpList_allocA AW rfl rfl ?_)
  try simp only [Act.put, List.setIfInBounds_toArray, List.set_cons_succ, List.set_cons_zero, hszU]
  generalize ((w.alloc (.cells (hc l) 46)).alloc (.cells (wn 0) 51)).alloc (.cells (wn 0) 51) = W0 at *
  go_wp2_with (refine wpList_loadA A25 rfl _ rfl _ rfl (hc l) HCS.out 46 a0.out ?_)
  go_loopw [4, 5, 7] (fun _ _ d wr => ∃ i : Nat, i ≤ 32 ∧ d = .int .i64 i ∧ Hid (Ow w wr l (vs 256 (by8 l) i))) (fun _ _ d _ => (32 - intOf d).toNat)
  case atStart => exact ⟨0, by omega, rfl, J0⟩
  case round =>
    clear J0 a0
    obtain ⟨i, hi, rfl, J⟩ := hrel
    by_cases hlt : i < 32
    · have hi4 : (i : Int) < 32 := by omega
      have i0 : (0 : Int) ≤ i := by omega
      obtain ⟨p1, p2, p3⟩ := put_byte (vs 256 (by8 l) i) (by8 l i) i (vs_lt (fun k _ => by8_lt l k)) (by8_lt l i)
      have hor := u64_or_nat (wd (vs 256 (by8 l) i) (i / 8)) (by8 l i * 2 ^ (8 * (i % 8))) (wd_lt _ _) p1
      rw [p2] at hor
      have hsh := shl_word (by8 l i) (8 * (i % 8))
      rw [Nat.mod_eq_of_lt p1] at hsh
      have hb := by8_lt l i
      have hw : IntKind.u64.wrap ((by8 l i : Nat) : Int) = ((by8 l i : Nat) : Int) := wrapu _ (by omega) (by omega)
      have d1 : (i : Int) / 8 = ((i / 8 : Nat) : Int) := by omega
      have d2 : (i : Int) % 8 = ((i % 8 : Nat) : Int) := by omega
      have c1 : IntKind.i64.wrap (8 * ((i % 8 : Nat) : Int)) = ((8 * (i % 8) : Nat) : Int) := by rw [wrapI _ (by omega) (by omega)]; omega
      have q4 : ((i / 8 : Nat) : Int) < 4 := by omega
      have q0 : (0 : Int) ≤ ((i / 8 : Nat) : Int) := by omega
      have r6 : ((8 * (i % 8) : Nat) : Int) ≤ 64 := by omega
      have r0 : (0 : Int) ≤ ((8 * (i % 8) : Nat) : Int) := by omega
      have hiw : IntKind.i64.wrap ((i : Int) + 1) = i + 1 := wrapI _ (by omega) (by omega)
      have Q4 := hide (show i / 8 < 4 by omega)
      have HN : Hid (∀ k, (if k = i / 8 then wd (vs 256 (by8 l) i + by8 l i * 256 ^ i) (i / 8) else wd (vs 256 (by8 l) i) k) = wd (vs 256 (by8 l) (i + 1)) k) := fun k => by
        show _ = wd (vs 256 (by8 l) i + by8 l i * 256 ^ i) k
        split
        · rename_i h
          rw [h]
        · rename_i h
          exact (p3 k h).symm
      have LL := hide hlt
      have LI := hide (show i < l.length by rw [HL.out]; exact hlt)
      clear hlt hi hb p1 p2 p3
      generalize hY : vs 256 (by8 l) (i + 1) = Y at *
      have HY := hide hY
      clear hY
      generalize hV : wd (vs 256 (by8 l) i + by8 l i * 256 ^ i) (i / 8) = V at *
      clear hV
      generalize vs 256 (by8 l) i = X at *
      generalize by8 l i * 2 ^ (8 * (i % 8)) = bs at *
      generalize 8 * (i % 8) = r at *
      generalize i % 8 = e at *
      generalize hq : i / 8 = q at *
      clear hq
      go_upto_region 5 with (refine wpList_indexH rfl _ _ rfl l HL.out i rfl rfl LI.out ?_)
      have cq := J.out.o.cell Q4.out
      have fq := J.out.o.fz q
      go_region
      go_wp2
      have L4 := LL.out
      exact ⟨⟨i + 1, by omega, by go_num, by rw [HY.out]; exact hide ((J.out.set q V Y HN.out).drew)⟩, by simp [intOf]; omega⟩
    · have hke : i = 32 := by omega
      subst hke
      have H2 := J.out.o.heap
      go_wp2_with (first | refine wpList_loadA AW rfl _ rfl _ rfl (wn (vs 256 (by8 l) 32)) (wn_size _) 51 H2 ?_ | refine wpList_storeA AW rfl _ _ rfl _ (wn (vs 256 (by8 l) 32)) (wn_size _) (wn_one _) rfl rfl (wn 0) (wn_size 0) 51 J.out.r ?_)
      exact bodyPost_ret (v := .agg (wn (vs 256 (by8 l) 32))) (resA AW Tryz.results174 _ _ (w.heap.size + 1) 51 (wn (vs 256 (by8 l) 32)) (wn_size _) rfl (setRow_heap _ _ _ _ _ _ J.out.r)) rfl ⟨rfl, below_setRow J.out.bel (by omega) _⟩
end
end Go.Proofs.YtofddbjnncgmlaaGreatDoor
namespace Go.Proofs.YtofddbjnncgmlaaGreatDoor
open Go.RowKit
open Go.Deep
theorem hv_eq (l : List UInt8) : hv l = vs 256 (by8 l) 32 := by unfold hv; rfl
/-- Whether an id meets bits. -/
def mt (l : List UInt8) (b : Nat) : Bool := okB b && decide (hv l ≤ tgt b)
theorem cmp_leB (a b : Nat) : (cmpZ a b ≤ 0) = (a ≤ b) := by
  apply propext
  unfold cmpZ
  split
  · simp; omega
  · split <;> simp <;> omega
section
set_option maxRecDepth 10000
set_option maxHeartbeats 2000000
theorem meets_any (l : List UInt8) (hl : l.length = 32) (b : Nat) (hb : b < 4294967296) (w : World) : Calls Tryz.prog 84 #[.agg (hc l), .int .u32 (b : Int)] w fun e w' => e = .returned (.bool (mt l b)) ∧ Below w.heap.size w w' := by
  have HE := hide fun W => expand_any b hb W
  have HO : Hid (∀ W, Calls Tryz.prog 174 #[.agg (hc l)] W fun e w' => e = .returned (.agg (wn (hv l))) ∧ Below W.heap.size W w') := fun W => by
    have := ofW_any l hl W
    rw [← hv_eq] at this
    exact this
  have hX : xt b < M := Nat.lt_of_le_of_lt (xt_le b) Lm_M
  have HC := hide fun W => compare_any _ _ (hv_lt l) hX W
  have J0 := hide (Rc.start1 w 46 (hc l))
  have hcs := hide (show (hc l).size = 32 by rw [hc_size]; exact hl)
  have hm : mt l b = (okB b && decide (cmpZ (hv l) (xt b) ≤ 0)) := by
    unfold mt xt
    cases okB b
    · rw [Bool.false_and, Bool.false_and]
    · simp only [cmp_leB, if_true]
  rw [hm]
  generalize hv l = V at *
  generalize xt b = X at *
  generalize cmpZ V X = z at *
  clear hm hX hl hb
  generalize okB b = ok at *
  cases ok
  · try simp only [Bool.false_eq_true, if_false] at HE
    go_enter Tryz.func84, Tryz.ntmps84
    go_upto_region 1 with (refine wpList_boxA rfl _ rfl (hc l) rfl ?_)
    generalize w.alloc (.cells (hc l) 46) = W0 at *
    go_upto_region 2 with (first | (go_at_call 81; refine (HE.out _).mono ?_; rintro e w1 ⟨rfl, be⟩; have J1 := hide ((J0.out.next be).new 51 (wn X)); clear be) | refine wpList_allocA AW rfl rfl ?_ | refine wpList_store_newA AW rfl _ _ rfl _ rfl (wn X) (wn_size _) (wn_one _) rfl rfl ?_)
    generalize w1.alloc (.cells (wn X) 51) = W1 at *
    generalize w1.heap.size = g5 at *
    obtain ⟨I, hne, F, i0, h0, hJ, hcl⟩ := J1.out.cls
    refine wp_region_class_lit (by kernel_rfl) (by kernel_rfl) i0 h0 ?_
    repeat (go_big_quiet_step (fail))
    refine wpQuiet_nil ?_
    rintro _ ⟨iq, rfl⟩
    go_wp2
    go_ret
    exact ⟨rfl, (hJ.out iq).bel⟩
  · try simp only [if_true] at HE
    have hzd : ∃ v, decide (z ≤ 0) = v := ⟨_, rfl⟩
    obtain ⟨v, hv⟩ := hzd
    rw [hv]
    go_enter Tryz.func84, Tryz.ntmps84
    go_upto_region 1 with (refine wpList_boxA rfl _ rfl (hc l) rfl ?_)
    generalize w.alloc (.cells (hc l) 46) = W0 at *
    go_upto_region 2 with (first | (go_at_call 81; refine (HE.out _).mono ?_; rintro e w1 ⟨rfl, be⟩; have J1 := hide ((J0.out.next be).new 51 (wn X)); clear be) | refine wpList_allocA AW rfl rfl ?_ | refine wpList_store_newA AW rfl _ _ rfl _ rfl (wn X) (wn_size _) (wn_one _) rfl rfl ?_)
    generalize w1.alloc (.cells (wn X) 51) = W1 at *
    generalize w1.heap.size = g5 at *
    obtain ⟨I, hne, F, i0, h0, hJ, hcl⟩ := J1.out.cls
    refine wp_region_class_lit (by kernel_rfl) (by kernel_rfl) i0 h0 ?_
    repeat (first | ((go_big_quiet_want; first | refine quiet_loadA AW _ (by rfl) g5 (by rfl) (wn X) (wn_size _) 51 (Rc.of hJ (by simp)) ?_ | refine quiet_loadA A25 _ (by rfl) w.heap.size (by rfl) (hc l) hcs.out 46 (Rc.of hJ (by simp)) ?_); go_big_quiet_on; simp only [Act.put, List.setIfInBounds_toArray, List.set_cons_succ, List.set_cons_zero]) | go_big_quiet_step (first | (go_at_call 174; exact class_of hcl.out (HO.out _)) | (go_at_call 170; exact class_of hcl.out (HC.out _))))
    refine wpQuiet_nil ?_
    rintro _ ⟨iq, rfl⟩
    go_wp2
    go_ret
    exact ⟨rfl, (hJ.out iq).bel⟩
end
end Go.Proofs.YtofddbjnncgmlaaGreatDoor
namespace Go.Proofs.YtofddbjnncgmlaaGreatDoor
open Go.RowKit
open Go.Deep
set_option linter.unusedVariables false
/-- A header. -/
structure Hd where
  ver : UInt32
  prev : List UInt8
  root : List UInt8
  time : UInt32
  bits : UInt32
  nonce : UInt32
  hp : prev.length = 32
  hr : root.length = 32
def Hd.cells (h : Hd) : List Value := .int .u32 (h.ver.toNat : Int) :: (cellsL h.prev ++ (cellsL h.root ++ [.int .u32 (h.time.toNat : Int), .int .u32 (h.bits.toNat : Int), .int .u32 (h.nonce.toNat : Int)]))
def Hd.front (h : Hd) : List UInt8 := lowL h.ver.toNat 4 ++ h.prev ++ h.root ++ lowL h.time.toNat 4 ++ lowL h.bits.toNat 4
def Hd.bytes (h : Hd) : List UInt8 := h.front ++ lowL h.nonce.toNat 4
theorem Hd.front_len (h : Hd) : h.front.length = 76 := by
  rw [Hd.front]
  simp only [List.length_append, lowL_len, h.hp, h.hr]
theorem Hd.bytes_len (h : Hd) : h.bytes.length = 80 := by
  rw [Hd.bytes]
  simp only [List.length_append, lowL_len, h.front_len]
theorem Hd.len (h : Hd) : h.cells.length = 68 := by
  rw [Hd.cells]
  simp only [List.length_cons, List.length_append, cellsL_len, h.hp, h.hr, List.length_nil]
theorem Hd.size (h : Hd) : h.cells.toArray.size = 68 := by rw [List.size_toArray, h.len]
theorem Hd.one (h : Hd) : ∀ v ∈ h.cells, v.oneCell' = true := by
  intro v hv
  simp only [Hd.cells, List.mem_cons, List.mem_append, List.not_mem_nil, or_false] at hv
  rcases hv with rfl | hv | hv | rfl | rfl | rfl
  · rfl
  · simp only [cellsL, List.mem_map] at hv; obtain ⟨x, _, rfl⟩ := hv; rfl
  · simp only [cellsL, List.mem_map] at hv; obtain ⟨x, _, rfl⟩ := hv; rfl
  · rfl
  · rfl
  · rfl
theorem Hd.all (h : Hd) : h.cells.toArray.all (·.oneCell') = true := by
  rw [Array.all_eq_true_iff_forall_mem]
  intro v hv
  exact h.one v (by simpa using hv)
def zHd : Hd := ⟨0, zeros, zeros, 0, 0, 0, zeros_len, zeros_len⟩
theorem AHd : Arr 48 68 zHd.cells.toArray := ⟨.inr ⟨_, Tryz.underlying48⟩, by kernel_rfl, fun w => by kernel_rfl, fun w => by kernel_rfl, by rw [List.size_toArray, Hd.len]⟩
/-! ### a header's cells -/
theorem Hd.get0 (h : Hd) : h.cells[0]? = some (.int .u32 (h.ver.toNat : Int)) := rfl
theorem Hd.getP (h : Hd) (j : Nat) (v : Value) (hv : (cellsL h.prev)[j]? = some v) : h.cells[1 + j]? = some v := by
  rw [Hd.cells, Nat.add_comm, List.getElem?_cons_succ, List.getElem?_append_left (List.getElem?_eq_some_iff.1 hv).1]
  exact hv
theorem Hd.getR (h : Hd) (j : Nat) (v : Value) (hv : (cellsL h.root)[j]? = some v) : h.cells[33 + j]? = some v := by
  have hl : (cellsL h.prev).length = 32 := by rw [cellsL_len, h.hp]
  rw [Hd.cells, show 33 + j = (32 + j) + 1 by omega, List.getElem?_cons_succ, List.getElem?_append_right (by omega), hl, show 32 + j - 32 = j by omega, List.getElem?_append_left (List.getElem?_eq_some_iff.1 hv).1]
  exact hv
theorem Hd.getL (h : Hd) (j : Nat) : h.cells[65 + j]? = [Value.int .u32 (h.time.toNat : Int), .int .u32 (h.bits.toNat : Int), .int .u32 (h.nonce.toNat : Int)][j]? := by
  have hl : (cellsL h.prev).length = 32 := by rw [cellsL_len, h.hp]
  have hm : (cellsL h.root).length = 32 := by rw [cellsL_len, h.hr]
  rw [Hd.cells, show 65 + j = (64 + j) + 1 by omega, List.getElem?_cons_succ, List.getElem?_append_right (by omega), hl, List.getElem?_append_right (by omega), hm, show 64 + j - 32 - 32 = j by omega]
section
variable {W : World} {g off : Nat} (h : Hd) (r : W.rangeAt g off h.cells)
include r
theorem Hd.ver0 : W.cell? ⟨g, off, none⟩ = some (.int .u32 (h.ver.toNat : Int)) := r 0 _ h.get0
theorem Hd.prevR : W.rangeAt g (off + 1) (cellsL h.prev) := fun j v hv => by rw [Nat.add_assoc]; exact r _ _ (h.getP j v hv)
theorem Hd.rootR : W.rangeAt g (off + 33) (cellsL h.root) := fun j v hv => by rw [Nat.add_assoc]; exact r _ _ (h.getR j v hv)
theorem Hd.time0 : W.cell? ⟨g, off + 65, none⟩ = some (.int .u32 (h.time.toNat : Int)) := r 65 _ (h.getL 0)
theorem Hd.bits0 : W.cell? ⟨g, off + 66, none⟩ = some (.int .u32 (h.bits.toNat : Int)) := r 66 _ (h.getL 1)
theorem Hd.nonce0 : W.cell? ⟨g, off + 67, none⟩ = some (.int .u32 (h.nonce.toNat : Int)) := r 67 _ (h.getL 2)
end
theorem wpLoadHd {w : World} {ops : Array Oper} {rest : List Oper} {o : Oper} {a : Act} {Q : Exit → Act → World → Prop} (x : Operand) (ho : o.op = .load 48 x) (g off : Nat) (hx : a.eval x = .pointer (some ⟨g, off, none⟩)) (y : Hd) (hr : w.rangeAt g off y.cells) (hw : Region.wanted o (yielded ops a.tmps) = true)
    (h : wpList Tryz.prog ops Q rest (a.put o.dst (.agg y.cells.toArray)) w) : wpList Tryz.prog ops Q (o :: rest) a w := by
  have ld : (Instr.loadAt 48 (.pointer (some ⟨g, off, none⟩))).run Tryz.prog w = .ok (.agg y.cells.toArray) w :=
    run_loadAt_mid w g off 48 _ _ hr Tryz.underlying48 rfl (by rw [y.len]; kernel_rfl)
  refine wpList_step fun K hK => ?_
  rw [if_pos hw]
  unfold Oper.wp execOp
  simp only [ho, hx, ld, Sem.run_bind, Result.andThen_ok, Sem.run_pure]
  exact hK _ _ h
theorem wpLoadH25 {w : World} {ops : Array Oper} {rest : List Oper} {o : Oper} {a : Act} {Q : Exit → Act → World → Prop} (x : Operand) (ho : o.op = .load 46 x) (g off : Nat) (hx : a.eval x = .pointer (some ⟨g, off, none⟩)) (y : List UInt8) (hy : y.length = 32) (hr : w.rangeAt g off (cellsL y)) (hw : Region.wanted o (yielded ops a.tmps) = true)
    (h : wpList Tryz.prog ops Q rest (a.put o.dst (.agg (hc y))) w) : wpList Tryz.prog ops Q (o :: rest) a w := by
  have ld : (Instr.loadAt 46 (.pointer (some ⟨g, off, none⟩))).run Tryz.prog w = .ok (.agg (hc y)) w :=
    run_loadAt_mid w g off 46 _ _ hr Tryz.underlying46 rfl (by rw [cellsL_len, hy]; kernel_rfl)
  refine wpList_step fun K hK => ?_
  rw [if_pos hw]
  unfold Oper.wp execOp
  simp only [ho, hx, ld, Sem.run_bind, Result.andThen_ok, Sem.run_pure]
  exact hK _ _ h
section
set_option maxRecDepth 10000
set_option maxHeartbeats 4000000
theorem head_any (h : Hd) (w : World) : Calls Tryz.prog 80 #[.agg h.cells.toArray] w fun e w' => e = .returned (.string (txt h.bytes)) ∧ Below w.heap.size w w' := by
  have b1 := (Below.refl w.heap.size w).alloc (Nat.le_refl _) (.cells h.cells.toArray 48)
  have R1 := hide (heap_alloc_last w (.cells h.cells.toArray 48))
  have B1 := hide b1
  clear b1
  have hsz := hide h.size
  have RR : Hid (∀ W : World, W.heap[w.heap.size]? = some (.cells h.cells.toArray 48 (0, 0)) → W.rangeAt w.heap.size 0 h.cells) := fun W e => by
    have := rowAt _ e
    simpa using this
  generalize hC : h.cells.toArray = C at *
  go_enter Tryz.func80, Tryz.ntmps80
  go_upto_region 1 with ((with_reducible refine at_list ?_); refine wpList_boxA rfl _ rfl C rfl ?_)
  generalize w.alloc (.cells C 48) = W1 at *
  go_upto_region 2 with (go_at_call 121; refine (newWriter_any _).mono ?_; rintro e W2 ⟨rfl, rfl⟩)
  have J0 := hide (Wb.new W1)
  generalize W1.alloc (.cells #[.slice none 0 0] 364) = W2 at *
  generalize hb : W1.heap.size = b at *
  have CC : Hid (∀ W l, Wb W1 W b l → W.rangeAt w.heap.size 0 h.cells) := fun W l j => RR.out W ((j.bel.block _ (by rw [hb]; have := lt_heap R1.out; omega)).trans R1.out)
  have HU : Hid (∀ n : Nat, n < 4294967296 → ∀ l W, Wb W1 W b l → l.length ≤ 35184372088832 → Calls Tryz.prog 123 #[pb b, .int .u32 (n : Int)] W fun e w' => e = .returned (.tuple #[]) ∧ Wb W1 w' b (l ++ lowL n 4) ∧ Wfr W w' (pb b)) := fun n hn l W j hl => (wU32 (pb b) l n hn W hl j.st).mono fun e w' ⟨h1, h2, h3⟩ => ⟨h1, j.step h2 h3, h3⟩
  have HH : Hid (∀ h : List UInt8, h.length = 32 → ∀ l W, Wb W1 W b l → l.length ≤ 35184372088832 → Calls Tryz.prog 122 #[pb b, .agg (hc h)] W fun e w' => e = .returned (.tuple #[]) ∧ Wb W1 w' b (l ++ h) ∧ Wfr W w' (pb b)) := fun h hh l W j hl => (wHash (pb b) l h hh W hl j.st).mono fun e w' ⟨h1, h2, h3⟩ => ⟨h1, j.step h2 h3, h3⟩
  have HW : Hid (∀ l W, Wb W1 W b l → Calls Tryz.prog 127 #[pb b] W fun e w' => e = .returned (.string (txt l)) ∧ w' = W) := fun l W j => wText b l W j.st
  clear R1 RR hb
  have c0 := h.ver0 (CC.out _ _ J0.out)
  go_upto_region 3 with (go_at_call 123; refine (HU.out h.ver.toNat h.ver.toNat_lt [] _ J0.out (by simp)).mono ?_; rintro e W3 ⟨rfl, j1, f1⟩; have J1 := hide j1; clear j1 f1)
  rw [List.nil_append] at J1
  have rp := hide (h.prevR (CC.out _ _ J1.out))
  have HP := hide h.hp
  have HR := hide h.hr
  clear c0 J0
  go_upto_region 4 with (first | (go_at_call 122; refine (HH.out h.prev HP.out _ _ J1.out (by rw [lowL_len]; omega)).mono ?_; rintro e W4 ⟨rfl, j1, f1⟩; have J2 := hide j1; clear j1 f1) | ((with_reducible refine at_list ?_); refine wpLoadH25 _ rfl w.heap.size 1 rfl h.prev HP.out rp.out (by rfl) ?_))
  have rq := hide (h.rootR (CC.out _ _ J2.out))
  clear rp J1
  go_upto_region 5 with (first | (go_at_call 122; refine (HH.out h.root HR.out _ _ J2.out (by rw [List.length_append, lowL_len, HP.out]; omega)).mono ?_; rintro e W5 ⟨rfl, j1, f1⟩; have J3 := hide j1; clear j1 f1) | ((with_reducible refine at_list ?_); refine wpLoadH25 _ rfl w.heap.size 33 rfl h.root HR.out rq.out (by rfl) ?_))
  have c1 := h.time0 (CC.out _ _ J3.out)
  rw [Nat.zero_add] at c1
  clear rq J2
  go_upto_region 6 with (go_at_call 123; refine (HU.out h.time.toNat h.time.toNat_lt _ _ J3.out (by rw [List.length_append, List.length_append, lowL_len, HP.out, HR.out]; omega)).mono ?_; rintro e W6 ⟨rfl, j1, f1⟩; have J4 := hide j1; clear j1 f1)
  have c2 := h.bits0 (CC.out _ _ J4.out)
  rw [Nat.zero_add] at c2
  clear c1 J3
  go_upto_region 7 with (go_at_call 123; refine (HU.out h.bits.toNat h.bits.toNat_lt _ _ J4.out (by rw [List.length_append, List.length_append, List.length_append, lowL_len, lowL_len, HP.out, HR.out]; omega)).mono ?_; rintro e W7 ⟨rfl, j1, f1⟩; have J5 : Hid (Wb W1 W7 b h.front) := j1; clear j1 f1)
  have c3 := h.nonce0 (CC.out _ _ J5.out)
  rw [Nat.zero_add] at c3
  clear c2 J4
  go_upto_region 8 with (go_at_call 123; refine (HU.out h.nonce.toNat h.nonce.toNat_lt _ _ J5.out (by rw [h.front_len]; omega)).mono ?_; rintro e W8 ⟨rfl, j1, f1⟩; have J6 : Hid (Wb W1 W8 b h.bytes) := j1; clear j1 f1)
  clear c3 J5
  go_wp2_with (go_at_call 127; refine (HW.out _ _ J6.out).mono ?_; rintro e W9 ⟨rfl, h9⟩; subst W9)
  go_ret
  exact ⟨rfl, below_next B1.out J6.out.bel⟩
end
end Go.Proofs.YtofddbjnncgmlaaGreatDoor
