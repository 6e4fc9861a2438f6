/- The contract of wide.Of. -/
import Derived.Test.YtmfpnlnhebjelaaWu
import Derived.Test.YtmfpnlnhebjelaaWo
namespace Go.Proofs.Ytmfpnlnhebjelaa
open Go.RowKit
open Go.Deep
theorem hszU (w : World) (o : Obj) : (w.alloc o).heap.size = w.heap.size + 1 := by simp
/-- A byte more in a number. -/
theorem put_byte (x b i : Nat) (hx : x < 256 ^ i) (hb : b < 256) : b * 2 ^ (8 * (i % 8)) < 18446744073709551616 ∧ wd x (i / 8) ||| b * 2 ^ (8 * (i % 8)) = wd (x + b * 256 ^ i) (i / 8) ∧ ∀ j, j ≠ i / 8 → wd (x + b * 256 ^ i) j = wd x j := by
  have hp : 256 ^ i = 2 ^ (8 * i) := by rw [Nat.pow_mul]
  rw [hp] at hx ⊢
  have e : x + b * 2 ^ (8 * i) = b * 2 ^ (8 * i) ||| x := by
    rw [Nat.mul_comm, ← Nat.two_pow_add_eq_or_of_lt hx, Nat.add_comm]
  have hbt : ∀ n, 8 ≤ n → b.testBit n = false := fun n hn => Nat.testBit_lt_two_pow (Nat.lt_of_lt_of_le hb (show 256 ≤ 2 ^ n from Nat.pow_le_pow_right (n := 2) (i := 8) (j := n) (by decide) hn))
  refine ⟨?_, ?_, fun j hj => ?_⟩
  · have h1 : b * 2 ^ (8 * (i % 8)) < 2 ^ 8 * 2 ^ (8 * (i % 8)) := Nat.mul_lt_mul_of_pos_right hb (Nat.two_pow_pos _)
    have h2 : 2 ^ 8 * 2 ^ (8 * (i % 8)) ≤ 2 ^ 64 := by
      rw [← Nat.pow_add]
      exact Nat.pow_le_pow_right (by decide) (by omega)
    omega
  · apply word_ext
    intro t
    rw [e, wd_bit, Nat.testBit_or, Nat.testBit_or, wd_bit, Nat.testBit_mul_two_pow, Nat.testBit_mul_two_pow]
    by_cases ht : t < 64
    · rw [show (decide (8 * i ≤ 64 * (i / 8) + t)) = decide (8 * (i % 8) ≤ t) by rw [Bool.eq_iff_iff]; simp; omega]
      by_cases h8 : 8 * (i % 8) ≤ t
      · rw [show 64 * (i / 8) + t - 8 * i = t - 8 * (i % 8) by omega]
        simp [ht, Bool.or_comm]
      · simp [ht, h8]
    · rw [hbt (t - 8 * (i % 8)) (by omega)]
      simp [ht]
  · apply word_ext
    intro t
    rw [e, wd_bit, wd_bit, Nat.testBit_or, Nat.testBit_mul_two_pow]
    by_cases ht : t < 64
    · by_cases h8 : 8 * i ≤ 64 * j + t
      · rw [hbt (64 * j + t - 8 * i) (by omega)]
        simp
      · simp [h8]
    · simp [ht]
/-- A byte out of an array that is a value. -/
theorem run_indexH (l : List UInt8) (i : Nat) (h : i < l.length) (hl : l.length = 32) (w : World) : (Instr.index 29 (.agg (hc l)) (.int .i64 (i : Int))).run Try.prog w = .ok (.int .u8 ((by8 l i : Nat) : Int)) w := by
  have hp : (Go.part 5 (hc l) (i * 1)).run Try.prog w = .ok (.int .u8 ((by8 l i : Nat) : Int)) w := by
    simp [Go.part, isAgg, run_underlying Try.underlying5, hc_at l i h]
  rw [Nat.mul_one] at hp
  have h32 : i < 32 := by omega
  simp [Instr.index, asIntOf, run_underlying Try.underlying29, h32, hp]
theorem wpList_indexH {w : World} {ops : Array Oper} {rest : List Oper} {o : Oper} {a : Act} {Q : Exit → Act → World → Prop} (hgd : o.guard = none) (x y : Operand) (ho : o.op = .index 29 x y) (l : List UInt8) (hl : l.length = 32) (i : Nat) (hx : a.eval x = .agg (hc l)) (hy : a.eval y = .int .i64 (i : Int)) (hi : i < l.length)
    (h : wpList Try.prog ops Q rest (a.put o.dst (.int .u8 ((by8 l i : Nat) : Int))) w) : wpList Try.prog ops Q (o :: rest) a w := by
  refine wpList_plain hgd fun K hK => ?_
  unfold Oper.wp execOp
  simp only [ho, hx, hy, run_indexH l i hi hl w, Sem.run_bind, Result.andThen_ok, Sem.run_pure]
  exact hK _ _ h
/-- Bytes, an answer's place, and a row of words. -/
structure Ow (w W : World) (l : List UInt8) (x : Nat) : Prop where
  a : W.heap[w.heap.size]? = some (.cells (hc l) 29 (0, 0))
  r : W.heap[w.heap.size + 1]? = some (.cells (wn 0) 24 (0, 0))
  o : Nd W (w.heap.size + 1 + 1) 24 4 (wd x)
  bel : Below w.heap.size w W
theorem Ow.start (w : World) (l : List UInt8) : Ow w (((w.alloc (.cells (hc l) 29)).alloc (.cells (wn 0) 24)).alloc (.cells (wn 0) 24)) l 0 := by
  obtain ⟨e1, e2, e3⟩ := blk3 w (.cells (hc l) 29) (.cells (wn 0) 24) (.cells (wn 0) 24)
  exact ⟨e1, e2, Nd.of_heap e3, below3 w _ _ _⟩
theorem Ow.set {w W : World} {l : List UInt8} {x : Nat} (j : Ow w W l x) (i v y : Nat) (e : ∀ k, (if k = i then v else wd x k) = wd y k) : Ow w (W.setCell ⟨w.heap.size + 1 + 1, i, none⟩ (.int .u64 ((v : Nat) : Int))) l y :=
  ⟨(Below.heap_setCell _ _ _ _ (by simp <;> omega)).trans j.a, (Below.heap_setCell _ _ _ _ (by simp <;> omega)).trans j.r, (j.o.set i v).congr (fun k _ => e k), j.bel.setCell (by simp <;> omega) _⟩
theorem Ow.drew {w W : World} {l : List UInt8} {x : Nat} (j : Ow w W l x) : Ow w W.drew l x := ⟨j.a, j.r, j.o, j.bel.drew⟩
section
set_option maxRecDepth 10000
set_option maxHeartbeats 2000000
theorem ofW_any (l : List UInt8) (hl : l.length = 32) (w : World) : Calls Try.prog 13 #[.agg (hc l)] w fun e w' => e = .returned (.agg (wn (vs 256 (by8 l) 32))) ∧ Below w.heap.size w w' := by
  have J0 : Hid (Ow w (((w.alloc (.cells (hc l) 29)).alloc (.cells (wn 0) 24)).alloc (.cells (wn 0) 24)) l (vs 256 (by8 l) 0)) := Ow.start w l
  have a0 := hide J0.out.a
  have HL := hide hl
  have hcs : (hc l).size = 32 := by rw [hc_size]; exact hl
  have HCS := hide hcs
  clear hl hcs
  go_enter Try.func13, Try.ntmps13
  go_upto_region 2 with (first | refine wpList_boxA rfl _ rfl (hc l) rfl ?_ | refine wpList_allocA AW rfl rfl ?_)
  try simp only [Act.put, List.setIfInBounds_toArray, List.set_cons_succ, List.set_cons_zero, hszU]
  generalize ((w.alloc (.cells (hc l) 29)).alloc (.cells (wn 0) 24)).alloc (.cells (wn 0) 24) = W0 at *
  go_wp2_with (refine wpList_loadA A25 rfl _ rfl _ rfl (hc l) HCS.out 29 a0.out ?_)
  go_loopw [4, 5, 7] (fun _ _ d wr => ∃ i : Nat, i ≤ 32 ∧ d = .int .i64 i ∧ Hid (Ow w wr l (vs 256 (by8 l) i))) (fun _ _ d _ => (32 - intOf d).toNat)
  case atStart => exact ⟨0, by omega, rfl, J0⟩
  case round =>
    clear J0 a0
    obtain ⟨i, hi, rfl, J⟩ := hrel
    by_cases hlt : i < 32
    · have hi4 : (i : Int) < 32 := by omega
      have i0 : (0 : Int) ≤ i := by omega
      obtain ⟨p1, p2, p3⟩ := put_byte (vs 256 (by8 l) i) (by8 l i) i (vs_lt (fun k _ => by8_lt l k)) (by8_lt l i)
      have hor := u64_or_nat (wd (vs 256 (by8 l) i) (i / 8)) (by8 l i * 2 ^ (8 * (i % 8))) (wd_lt _ _) p1
      rw [p2] at hor
      have hsh := shl_word (by8 l i) (8 * (i % 8))
      rw [Nat.mod_eq_of_lt p1] at hsh
      have hb := by8_lt l i
      have hw : IntKind.u64.wrap ((by8 l i : Nat) : Int) = ((by8 l i : Nat) : Int) := wrapu _ (by omega) (by omega)
      have d1 : (i : Int) / 8 = ((i / 8 : Nat) : Int) := by omega
      have d2 : (i : Int) % 8 = ((i % 8 : Nat) : Int) := by omega
      have c1 : IntKind.i64.wrap (8 * ((i % 8 : Nat) : Int)) = ((8 * (i % 8) : Nat) : Int) := by rw [wrapI _ (by omega) (by omega)]; omega
      have q4 : ((i / 8 : Nat) : Int) < 4 := by omega
      have q0 : (0 : Int) ≤ ((i / 8 : Nat) : Int) := by omega
      have r6 : ((8 * (i % 8) : Nat) : Int) ≤ 64 := by omega
      have r0 : (0 : Int) ≤ ((8 * (i % 8) : Nat) : Int) := by omega
      have hiw : IntKind.i64.wrap ((i : Int) + 1) = i + 1 := wrapI _ (by omega) (by omega)
      have Q4 := hide (show i / 8 < 4 by omega)
      have HN : Hid (∀ k, (if k = i / 8 then wd (vs 256 (by8 l) i + by8 l i * 256 ^ i) (i / 8) else wd (vs 256 (by8 l) i) k) = wd (vs 256 (by8 l) (i + 1)) k) := fun k => by
        show _ = wd (vs 256 (by8 l) i + by8 l i * 256 ^ i) k
        split
        · rename_i h
          rw [h]
        · rename_i h
          exact (p3 k h).symm
      have LL := hide hlt
      have LI := hide (show i < l.length by rw [HL.out]; exact hlt)
      clear hlt hi hb p1 p2 p3
      generalize hY : vs 256 (by8 l) (i + 1) = Y at *
      have HY := hide hY
      clear hY
      generalize hV : wd (vs 256 (by8 l) i + by8 l i * 256 ^ i) (i / 8) = V at *
      clear hV
      generalize vs 256 (by8 l) i = X at *
      generalize by8 l i * 2 ^ (8 * (i % 8)) = bs at *
      generalize 8 * (i % 8) = r at *
      generalize i % 8 = e at *
      generalize hq : i / 8 = q at *
      clear hq
      go_upto_region 5 with (refine wpList_indexH rfl _ _ rfl l HL.out i rfl rfl LI.out ?_)
      have cq := J.out.o.cell Q4.out
      have fq := J.out.o.fz q
      go_region
      go_wp2
      have L4 := LL.out
      exact ⟨⟨i + 1, by omega, by go_num, by rw [HY.out]; exact hide ((J.out.set q V Y HN.out).drew)⟩, by simp [intOf]; omega⟩
    · have hke : i = 32 := by omega
      subst hke
      have H2 := J.out.o.heap
      go_wp2_with (first | refine wpList_loadA AW rfl _ rfl _ rfl (wn (vs 256 (by8 l) 32)) (wn_size _) 24 H2 ?_ | refine wpList_storeA AW rfl _ _ rfl _ (wn (vs 256 (by8 l) 32)) (wn_size _) (wn_one _) rfl rfl (wn 0) (wn_size 0) 24 J.out.r ?_)
      exact bodyPost_ret (v := .agg (wn (vs 256 (by8 l) 32))) (resA AW Try.results13 _ _ (w.heap.size + 1) 24 (wn (vs 256 (by8 l) 32)) (wn_size _) rfl (setRow_heap _ _ _ _ _ _ J.out.r)) rfl ⟨rfl, below_setRow J.out.bel (by omega) _⟩
end
end Go.Proofs.Ytmfpnlnhebjelaa
