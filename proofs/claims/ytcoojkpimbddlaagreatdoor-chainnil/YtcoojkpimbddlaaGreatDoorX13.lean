/- The contract of wide.Div, in full. The contracts of wide.mulAdd and wide.Mul. The contracts of wide.Not and wide.Root. The contract of wide.Mul. Targets: the mathematics of bits; the contracts of target.said and Limit. -/
import Derived.Test.YtcoojkpimbddlaaGreatDoorX12
import Derived.Test.YtcoojkpimbddlaaGreatDoorX11
namespace Go.Proofs.YtcoojkpimbddlaaGreatDoor
open Go.RowKit
open Go.Deep
attribute [local go_sem ↓] ldW_eq svW_eq
section
set_option maxRecDepth 10000
set_option maxHeartbeats 2000000
theorem div_long (m n : Nat) (hm : m < M) (hn : n < M) (hl : ¬ n < 18446744073709551616) (w : World) : Calls Tryz.prog 183 #[.agg (wn m), .agg (wn n)] w fun e w' => e = .returned (.tuple #[.agg (wn (m / n)), .agg (wn (m % n)), .int .i64 0]) ∧ Below w.heap.size w w' := by
  have J0 := hide (Ad.start w 51 m n)
  have HZ := hide fun W => zero_any n hn W
  rw [show decide (n = 0) = false by simp; omega] at HZ
  have HL := hide fun W => low_no n hn hl W
  have HD := hide fun W => divLong_any m n hm (by omega) hn W
  clear hm hn hl
  generalize m / n = q at *
  generalize m % n = r at *
  go_enter Tryz.func183, Tryz.ntmps183
  go_upto_region 1 with (first | refine wpList_boxA rfl _ rfl (wn m) rfl ?_ | refine wpList_boxA rfl _ rfl (wn n) rfl ?_ | refine wpList_allocA AW rfl rfl ?_)
  generalize (((w.alloc (.cells (wn m) 51)).alloc (.cells (wn n) 51)).alloc (.cells (wn 0) 51)).alloc (.cells (wn 0) 51) = W0 at *
  have b0 := hide J0.out.b.heap
  go_upto_region 7 with (first | refine wpList_loadA AW rfl _ rfl _ rfl (wn n) (wn_size _) 51 b0.out ?_ | refine wpList_loadA AW rfl _ rfl _ rfl (wn n) (wn_size _) 51 b1.out ?_ | (go_at_call 178; refine (HZ.out _).mono ?_; rintro e w1 ⟨rfl, be⟩; have J1 := hide (J0.out.next be); have b1 := hide J1.out.b.heap; clear be) | (go_at_call 236; refine (HL.out _).mono ?_; rintro e w2 ⟨rfl, be⟩; have J2 := hide (J1.out.next be); have a2 := hide J2.out.a.heap; have b2 := hide J2.out.b.heap; clear be))
  clear J0 b0 J1 b1 HZ HL
  go_upto_region 8 with (first | refine wpList_loadA AW rfl _ rfl _ rfl (wn m) (wn_size _) 51 a2.out ?_ | refine wpList_loadA AW rfl _ rfl _ rfl (wn n) (wn_size _) 51 b2.out ?_ | (go_at_call 238; refine (HD.out _).mono ?_; rintro e w3 ⟨rfl, be⟩; have J3 := hide (J2.out.next be); clear be) | refine wpList_allocA AW rfl rfl ?_ | refine wpList_storeA AW rfl _ _ rfl _ (wn q) (wn_size _) (wn_one _) rfl rfl (wn 0) (wn_size _) 51 (blk2x w3 (.cells (wn 0) 51) (.cells (wn 0) 51)).1 ?_ | refine wpList_storeA AW rfl _ _ rfl _ (wn r) (wn_size _) (wn_one _) rfl rfl (wn 0) (wn_size _) 51 (blk2s w3 (.cells (wn 0) 51) (.cells (wn 0) 51) (wn q)) ?_)
  obtain ⟨r3, r4, rb⟩ := blk2w w3 51 (wn 0) (wn q) (wn r)
  have H3 := hide r3
  have H4 := hide r4
  have J4 := hide (J3.out.next rb)
  have hlt := J3.out.ne
  clear r3 r4 rb J2 a2 b2 HD J3
  simp only [Act.put, List.setIfInBounds_toArray, List.set_cons_succ, List.set_cons_zero, hsz]
  generalize (((w3.alloc (.cells (wn 0) 51)).alloc (.cells (wn 0) 51)).setRow w3.heap.size (wn q)).setRow (w3.heap.size + 1) (wn r) = W4 at *
  have l1 := ldW_row (W := W4.drew) H3.out
  have l2 := ldW_row (W := W4.drew) H4.out
  have s1 := svW_row (w := W4.drew) J4.out.r q
  have l3 := ldW_row (W := W4.drew.setRow (w.heap.size + 1 + 1) (wn q)) ((setRow_other _ _ _ _ (by omega)).trans H4.out)
  have s2 := svW_row (w := W4.drew.setRow (w.heap.size + 1 + 1) (wn q)) ((setRow_other _ _ _ _ (by omega)).trans J4.out.o.heap) r
  clear hlt
  go_region
  go_wp2
  exact bodyPost_ret (v := .tuple #[.agg (wn q), .agg (wn r), .int .i64 0]) (resAA3 AW Tryz.results183 _ _ (w.heap.size + 1 + 1) (w.heap.size + 1 + 1 + 1) 51 (wn q) (wn r) (wn_size _) (wn_size _) rfl (two_rows J4.out.drew _ _).1 rfl (two_rows J4.out.drew _ _).2.1 _ (by rfl)) rfl ⟨rfl, (two_rows J4.out.drew _ _).2.2⟩
end
theorem div_any (m n : Nat) (hm : m < M) (h0 : 0 < n) (hn : n < M) (w : World) : Calls Tryz.prog 183 #[.agg (wn m), .agg (wn n)] w fun e w' => e = .returned (.tuple #[.agg (wn (m / n)), .agg (wn (m % n)), .int .i64 0]) ∧ Below w.heap.size w w' := by
  by_cases h : n < 18446744073709551616
  · exact div_word m n hm h0 h w
  · exact div_long m n hm hn h w
theorem run_indexW (m i : Nat) (h : i < 4) (w : World) : (Instr.index 51 (.agg (wn m)) (.int .i64 (i : Int))).run Tryz.prog w = .ok (.int .u64 ((wd m i : Nat) : Int)) w := by
  have hp : (Go.part 49 (wn m) (i * 1)).run Tryz.prog w = .ok (.int .u64 ((wd m i : Nat) : Int)) w := by
    simp [Go.part, isAgg, run_underlying Tryz.underlying49, wn, nc_at 4 (wd m) i h]
  rw [Nat.mul_one] at hp
  simp [Instr.index, asIntOf, run_underlying Tryz.underlying51, h, hp]
theorem wpList_indexW {w : World} {ops : Array Oper} {rest : List Oper} {o : Oper} {a : Act} {Q : Exit → Act → World → Prop} (hgd : o.guard = none) (x y : Operand) (ho : o.op = .index 51 x y) (m i : Nat) (hx : a.eval x = .agg (wn m)) (hy : a.eval y = .int .i64 (i : Int)) (hi : i < 4)
    (h : wpList Tryz.prog ops Q rest (a.put o.dst (.int .u64 ((wd m i : Nat) : Int))) w) : wpList Tryz.prog ops Q (o :: rest) a w := by
  refine wpList_plain hgd fun K hK => ?_
  unfold Oper.wp execOp
  simp only [ho, hx, hy, run_indexW m i hi w, Sem.run_bind, Result.andThen_ok, Sem.run_pure]
  exact hK _ _ h
section
set_option maxRecDepth 10000
set_option maxHeartbeats 2000000
end
structure Tri (w W : World) (t : TypeId) (m r : Nat) : Prop where
  a : W.heap[w.heap.size]? = some (.cells (wn m) t (0, 0))
  b : W.heap[w.heap.size + 1]? = some (.cells (wn 0) t (0, 0))
  c : W.heap[w.heap.size + 1 + 1]? = some (.cells (wn r) t (0, 0))
  bel : Below w.heap.size w W
section
variable {w W W' : World} {t : TypeId} {m r : Nat}
theorem Tri.start (w : World) (t : TypeId) (m r : Nat) : Tri w (((w.alloc (.cells (wn m) t)).alloc (.cells (wn 0) t)).alloc (.cells (wn r) t)) t m r := by
  obtain ⟨e1, e2, e3⟩ := blk3 w (.cells (wn m) t) (.cells (wn 0) t) (.cells (wn r) t)
  exact ⟨e1, e2, e3, below3 w _ _ _⟩
theorem Tri.next (j : Tri w W t m r) (h : Below W.heap.size W W') : Tri w W' t m r := ⟨(h.block _ (lt_heap j.a)).trans j.a, (h.block _ (lt_heap j.b)).trans j.b, (h.block _ (lt_heap j.c)).trans j.c, below_next j.bel h⟩
theorem Tri.put (j : Tri w W t m r) (s : Nat) : Tri w (W.setRow (w.heap.size + 1 + 1) (wn s)) t m s :=
  ⟨(setRow_other _ _ _ _ (by omega)).trans j.a, (setRow_other _ _ _ _ (by omega)).trans j.b, setRow_heap _ _ _ _ _ _ j.c, below_setRow j.bel (by omega) _⟩
theorem Tri.lt (j : Tri w W t m r) : w.heap.size + 1 + 1 < W.heap.size := lt_heap j.c
end
theorem xor_ones (x : Nat) (h : x < 18446744073709551616) : 18446744073709551615 ^^^ x = 18446744073709551615 - x := by
  have e : 18446744073709551615 ^^^ x = (BitVec.allOnes 64 ^^^ BitVec.ofNat 64 x).toNat := by
    rw [BitVec.toNat_xor, BitVec.toNat_allOnes, BitVec.toNat_ofNat, Nat.mod_eq_of_lt h]
  rw [e, BitVec.allOnes_xor, BitVec.toNat_not, BitVec.toNat_ofNat, Nat.mod_eq_of_lt h]
theorem not_bits (x : Nat) (h : x < 18446744073709551616) : bits .xor .u64 (if IntKind.u64.signed = true then -1 else IntKind.u64.max) (x : Int) = ((18446744073709551615 - x : Nat) : Int) := by
  rw [show (if IntKind.u64.signed = true then -1 else IntKind.u64.max) = ((18446744073709551615 : Nat) : Int) from by decide, u64_xor_nat _ _ (by decide) h, xor_ones x h]
section
set_option maxRecDepth 10000
set_option maxHeartbeats 2000000
theorem not_any (m : Nat) (hm : m < M) (w : World) : Calls Tryz.prog 184 #[.agg (wn m)] w fun e w' => e = .returned (.agg (wn (M - 1 - m))) ∧ Below w.heap.size w w' := by
  have J0 := hide ((Bd.start w 51 m).congr (nwf_zero m))
  have HW : Hid (∀ i, i < 4 → wd (M - 1 - m) i = 18446744073709551615 - wd m i) := fun i hi => not_word m i hm hi
  have a0 := hide (Bd.start w 51 m).a.heap
  clear hm
  go_enter Tryz.func184, Tryz.ntmps184
  go_upto_region 1 with (first | refine wpList_boxA rfl _ rfl (wn m) rfl ?_ | refine wpList_allocA AW rfl rfl ?_)
  generalize (w.alloc (.cells (wn m) 51)).alloc (.cells (wn 0) 51) = W0 at *
  go_wp2_with (refine wpList_loadA AW rfl _ rfl _ rfl (wn m) (wn_size _) 51 a0.out ?_)
  go_loopw [3, 4, 6] (fun _ _ d wr => ∃ i : Nat, i ≤ 4 ∧ d = .int .i64 i ∧ Hid (Bd w wr 51 (nwf m i))) (fun _ _ d _ => (4 - intOf d).toNat)
  case atStart => exact ⟨0, by omega, rfl, J0⟩
  case round =>
    clear J0
    obtain ⟨i, hi, rfl, J⟩ := hrel
    by_cases hlt : i < 4
    · have hi4 : (i : Int) < 4 := by omega
      have i0 : (0 : Int) ≤ i := by omega
      have ca := J.out.a.cell hlt
      have fa := J.out.a.fz i
      have hw : bits .xor .u64 (if IntKind.u64.signed = true then -1 else IntKind.u64.max) ((wd m i : Nat) : Int) = ((wd (M - 1 - m) i : Nat) : Int) := by
        rw [not_bits _ (wd_lt m i), HW.out i hlt]
      have HR : Hid (∀ j, (if j = i then wd (M - 1 - m) i else nwf m i j) = nwf m (i + 1) j) := fun j => nwf_step m i j
      have hiw : IntKind.i64.wrap ((i : Int) + 1) = i + 1 := wrapI _ (by omega) (by omega)
      have LL := hide hlt
      clear hi
      generalize wd (M - 1 - m) i = s at *
      go_wp2_with (refine wpList_indexW rfl _ _ rfl m i rfl rfl LL.out ?_)
      have L4 := LL.out
      exact ⟨⟨i + 1, by omega, by go_num, hide ((J.out.set i s).congr (fun j _ => HR.out j))⟩, by simp [intOf]; omega⟩
    · have hke : i = 4 := by omega
      subst hke
      have H2 := (J.out.a.congr (nwf_four m)).heap
      go_wp2_with (first | refine wpList_loadA AW rfl _ rfl _ rfl (wn (M - 1 - m)) (wn_size _) 51 H2 ?_ | refine wpList_storeA AW rfl _ _ rfl _ (wn (M - 1 - m)) (wn_size _) (wn_one _) rfl rfl (wn 0) (wn_size 0) 51 J.out.r ?_)
      exact bodyPost_ret (v := .agg (wn (M - 1 - m))) (resA AW Tryz.results184 _ _ (w.heap.size + 1) 51 (wn (M - 1 - m)) (wn_size _) rfl (setRow_heap _ _ _ _ _ _ J.out.r)) rfl ⟨rfl, below_setRow J.out.bel (by omega) _⟩
end
structure In (B i k a n c : Nat) (f g : Nat → Nat) : Prop where
  eq : vs B f (i + k) + c * B ^ (i + k) = vs B g (i + k) + a * (n % B ^ k) * B ^ i
  hc : c < B
  same : ∀ j, i + k ≤ j → f j = g j
  lt : ∀ j, f j < B
theorem In.start {B i a n : Nat} {g : Nat → Nat} (h0 : 0 < B) (h : ∀ j, g j < B) : In B i 0 a n 0 g g :=
  ⟨by simp [Nat.mod_one], h0, fun _ _ => rfl, h⟩
theorem In.next {B i k a n c : Nat} {f g : Nat → Nat} (h : In B i k a n c f g) (s : Nat) (hs : s = a * dg B n k + f (i + k) + c) (hlt : s / B < B) : In B i (k + 1) a n (s / B) (fun j => if j = i + k then s % B else f j) g := by
  have h0 : 0 < B := Nat.lt_of_le_of_lt (Nat.zero_le _) h.hc
  refine ⟨?_, hlt, fun j hj => ?_, fun j => ?_⟩
  · refine mul_step B f _ g i k a n c s h.eq ?_ (fun j hj => if_neg (by omega)) (if_pos rfl)
    rw [hs, h.same (i + k) (Nat.le_refl _)]
    omega
  · rw [if_neg (by omega)]
    exact h.same j (by omega)
  · split
    · exact Nat.mod_lt _ h0
    · exact h.lt j
structure Ou (B i N m n : Nat) (f : Nat → Nat) : Prop where
  eq : vs B f (i + N) = m % B ^ i * n
  lt : ∀ j, f j < B
theorem vs_zero (B : Nat) : ∀ k, vs B (fun _ => 0) k = 0
  | 0 => rfl
  | k + 1 => by rw [vs, vs_zero B k]; simp
theorem Ou.start {B N m n : Nat} (h0 : 0 < B) : Ou B 0 N m n (fun _ => 0) := ⟨by rw [vs_zero]; simp [Nat.mod_one], fun _ => h0⟩
theorem Ou.next {B i N m n c : Nat} {f g : Nat → Nat} (h : Ou B i N m n g) (hn : n < B ^ N) (hi : In B i N (dg B m i) n c f g) : Ou B (i + 1) N m n (fun j => if j = i + N then c else f j) := by
  refine ⟨mul_row B f _ g i N m n c hn h.eq hi.eq (fun j hj => if_neg (by omega)) (if_pos rfl), fun j => ?_⟩
  split
  · exact hi.hc
  · exact hi.lt j
theorem A8 : Arr 443 8 (nc 8 (fun _ => 0)) := ⟨.inl ⟨_, _, Tryz.underlying443⟩, by kernel_rfl, fun w => by kernel_rfl, fun w => by kernel_rfl, nc_size 8 _⟩
structure Mu (w W : World) (t u : TypeId) (k m n : Nat) (f : Nat → Nat) : Prop where
  a : Nd W w.heap.size t 4 (wd m)
  b : Nd W (w.heap.size + 1) t 4 (wd n)
  r : W.heap[w.heap.size + 1 + 1]? = some (.cells (wn 0) t (0, 0))
  s : W.heap[w.heap.size + 1 + 1 + 1]? = some (.cells (wn 0) t (0, 0))
  o : Nd W (w.heap.size + 1 + 1 + 1 + 1) u k f
  bel : Below w.heap.size w W
theorem Mu.start (w : World) (t u : TypeId) (k m n : Nat) (f : Nat → Nat) : Mu w (((((w.alloc (.cells (wn m) t)).alloc (.cells (wn n) t)).alloc (.cells (wn 0) t)).alloc (.cells (wn 0) t)).alloc (.cells (nc k f) u)) t u k m n f := by
  obtain ⟨e1, e2, e3, e4⟩ := blk4 w (.cells (wn m) t) (.cells (wn n) t) (.cells (wn 0) t) (.cells (wn 0) t)
  have b4 := below4 w (.cells (wn m) t) (.cells (wn n) t) (.cells (wn 0) t) (.cells (wn 0) t)
  have hs : ((((w.alloc (.cells (wn m) t)).alloc (.cells (wn n) t)).alloc (.cells (wn 0) t)).alloc (.cells (wn 0) t)).heap.size = w.heap.size + 1 + 1 + 1 + 1 := by simp
  have e5 := heap_alloc_last ((((w.alloc (.cells (wn m) t)).alloc (.cells (wn n) t)).alloc (.cells (wn 0) t)).alloc (.cells (wn 0) t)) (.cells (nc k f) u)
  rw [hs] at e5
  exact ⟨Nd.of_heap ((Below.heap_alloc _ _ _ (lt_heap e1)).trans e1), Nd.of_heap ((Below.heap_alloc _ _ _ (lt_heap e2)).trans e2), (Below.heap_alloc _ _ _ (lt_heap e3)).trans e3, (Below.heap_alloc _ _ _ (lt_heap e4)).trans e4, Nd.of_heap e5, b4.alloc (by simp; omega) _⟩
theorem Mu.set {w W : World} {t u : TypeId} {k m n : Nat} {f : Nat → Nat} (j : Mu w W t u k m n f) (i x : Nat) : Mu w (W.setCell ⟨w.heap.size + 1 + 1 + 1 + 1, i, none⟩ (.int .u64 ((x : Nat) : Int))) t u k m n (fun k => if k = i then x else f k) :=
  ⟨j.a.other (by omega) _ _, j.b.other (by omega) _ _, (Below.heap_setCell _ _ _ _ (by simp)).trans j.r, (Below.heap_setCell _ _ _ _ (by simp)).trans j.s, j.o.set i x, j.bel.setCell (by simp; omega) _⟩
theorem Mu.drew {w W : World} {t u : TypeId} {k m n : Nat} {f : Nat → Nat} (j : Mu w W t u k m n f) : Mu w W.drew t u k m n f := ⟨j.a, j.b, j.r, j.s, j.o, j.bel.drew⟩
theorem Mu.two {w W : World} {t u : TypeId} {k m n : Nat} {f : Nat → Nat} (j : Mu w W t u k m n f) (c d : Array Value) : ((W.setRow (w.heap.size + 1 + 1) c).setRow (w.heap.size + 1 + 1 + 1) d).heap[w.heap.size + 1 + 1]? = some (.cells c t (0, 0)) ∧ ((W.setRow (w.heap.size + 1 + 1) c).setRow (w.heap.size + 1 + 1 + 1) d).heap[w.heap.size + 1 + 1 + 1]? = some (.cells d t (0, 0)) ∧ Below w.heap.size w ((W.setRow (w.heap.size + 1 + 1) c).setRow (w.heap.size + 1 + 1 + 1) d) := by
  refine ⟨(setRow_other _ _ _ _ (by omega)).trans (setRow_heap _ _ _ _ _ _ j.r), setRow_heap _ _ _ _ _ _ ((setRow_other _ _ _ _ (by omega)).trans j.s), below_setRow (below_setRow j.bel (by omega) _) (by omega) _⟩
def bdW (x : Array (Nat × Value)) : Sem Value := Instr.build 51 x
theorem bdW_eq (x : Array (Nat × Value)) : Instr.build 51 x = bdW x := rfl
attribute [local go_sem ↓] ldW_eq svW_eq bdW_eq
section
set_option maxRecDepth 10000
set_option maxHeartbeats 4000000
end
def tgt (b : Nat) : Nat := if b / 16777216 < 3 then b % 8388608 / 2 ^ (8 * (3 - b / 16777216)) else b % 8388608 * 2 ^ (8 * (b / 16777216 - 3))
theorem and_low (b : Nat) (hb : b < 4294967296) : bits .and .u32 (b : Int) 8388607 = ((b % 8388608 : Nat) : Int) := by
  have e := u32_and_nat b 8388607 hb (by decide)
  rw [show ((8388607 : Nat) : Int) = 8388607 from rfl] at e
  rw [e]
  congr 1
  exact Nat.and_two_pow_sub_one_eq_mod b 23
theorem and_pow (b k : Nat) : b &&& 2 ^ k = if b / 2 ^ k % 2 = 1 then 2 ^ k else 0 := by
  apply Nat.eq_of_testBit_eq
  intro i
  rw [Nat.testBit_and, Nat.testBit_two_pow]
  by_cases h : k = i
  · subst h
    rw [Nat.testBit_eq_decide_div_mod_eq]
    by_cases h2 : b / 2 ^ k % 2 = 1 <;> simp [h2]
  · simp only [h, decide_false, Bool.and_false]
    split
    · rw [Nat.testBit_two_pow]
      simp [h]
    · simp
theorem and_bit (b : Nat) (hb : b < 4294967296) : (bits .and .u32 (b : Int) 8388608 != 0) = decide (b / 8388608 % 2 = 1) := by
  have e := u32_and_nat b 8388608 hb (by decide)
  rw [show ((8388608 : Nat) : Int) = 8388608 from rfl] at e
  have e2 : b &&& 8388608 = if b / 8388608 % 2 = 1 then 8388608 else 0 := and_pow b 23
  rw [e, e2]
  by_cases h : b / 8388608 % 2 = 1
  · rw [if_pos h]
    simp only [h]
    decide
  · rw [if_neg h]
    simp only [h]
    decide
theorem big_none (a k : Nat) (h : 256 ≤ k) : wn (a * 2 ^ k) = wn 0 ∧ decide (M ≤ a * 2 ^ k) = decide (0 < a) := by
  have e : 2 ^ k = M * 2 ^ (k - 256) := by rw [M_pow, ← Nat.pow_add, show 256 + (k - 256) = k by omega]
  have hp := Nat.two_pow_pos (k - 256)
  constructor
  · rw [e, Nat.mul_left_comm, ← wn_mod, Nat.mul_mod_right]
  · rw [Bool.eq_iff_iff]
    simp only [decide_eq_true_eq]
    constructor
    · intro h1
      rcases Nat.eq_zero_or_pos a with h2 | h2
      · subst h2
        rw [Nat.zero_mul] at h1
        exact absurd h1 (by decide)
      · exact h2
    · intro h1
      rw [e, Nat.mul_left_comm]
      exact Nat.le_mul_of_pos_right M (Nat.mul_pos h1 hp)
section
set_option maxRecDepth 10000
set_option maxHeartbeats 2000000
theorem said_any (b : Nat) (hb : b < 4294967296) (w : World) : Calls Tryz.prog 177 #[.int .u32 (b : Int)] w fun e w' => e = .returned (.tuple #[.agg (wn (tgt b)), .bool (decide (M ≤ tgt b))]) ∧ Below w.heap.size w w' := by
  have hl := and_low b hb
  have hmm : b % 8388608 < 18446744073709551616 := by omega
  have HF := hide fun W => from_any (b % 8388608) hmm W
  have hmM : b % 8388608 < M := Nat.lt_trans hmm (by decide)
  have hs : (b : Int) / 16777216 = ((b / 16777216 : Nat) : Int) := by omega
  have hs8 : b / 16777216 < 256 := by omega
  have w1 : IntKind.i64.wrap ((b / 16777216 : Nat) : Int) = ((b / 16777216 : Nat) : Int) := wrapI _ (by omega) (by omega)
  have w2 : IntKind.i64.wrap (((b / 16777216 : Nat) : Int) - 3) = ((b / 16777216 : Nat) : Int) - 3 := wrapI _ (by omega) (by omega)
  have w3 : IntKind.i64.wrap (8 * (((b / 16777216 : Nat) : Int) - 3)) = 8 * (((b / 16777216 : Nat) : Int) - 3) := wrapI _ (by omega) (by omega)
  have w4 : IntKind.u64.wrap ((b % 8388608 : Nat) : Int) = ((b % 8388608 : Nat) : Int) := wrapu _ (by omega) (by omega)
  have HL : Hid (∀ W, Calls Tryz.prog 234 #[.agg (wn (b % 8388608)), .int .i64 (8 * (((b / 16777216 : Nat) : Int) - 3))] W fun e w' => e = .returned (.tuple #[.agg (wn (tgt b)), .bool (decide (M ≤ tgt b))]) ∧ Below W.heap.size W w') := by
    intro W
    unfold tgt
    generalize b / 16777216 = s at *
    generalize b % 8388608 = u at *
    by_cases h3 : s < 3
    · rw [if_pos h3]
      have := left_neg u (8 * ((s : Int) - 3)) (8 * (3 - s)) hmM (by omega) (by unfold sh; rw [if_neg (by omega), if_neg (by omega)]; omega) (by omega) W
      have hlt : u / 2 ^ (8 * (3 - s)) < M := Nat.lt_of_le_of_lt (Nat.div_le_self _ _) hmM
      rw [show decide (M ≤ u / 2 ^ (8 * (3 - s))) = false by simp; omega]
      exact this
    · rw [if_neg h3]
      by_cases hk : 8 * (s - 3) ≤ 256
      · exact left_pos u (8 * ((s : Int) - 3)) (8 * (s - 3)) hmM (by unfold sh; rw [if_neg (by omega), if_neg (by omega)]; omega) hk W
      · have := left_pos u (8 * ((s : Int) - 3)) 256 hmM (by unfold sh; rw [if_neg (by omega), if_pos (by omega)]; rfl) (by omega) W
        rw [(big_none u 256 (by omega)).1, (big_none u 256 (by omega)).2] at this
        rw [(big_none u (8 * (s - 3)) (by omega)).1, (big_none u (8 * (s - 3)) (by omega)).2]
        exact this
  have J0 := hide (heap_alloc_last w (.cells (wn 0) 51))
  have B0 := hide ((Below.refl w.heap.size w).alloc (Nat.le_refl _) (.cells (wn 0) 51))
  generalize tgt b = T at *
  generalize decide (M ≤ T) = ov at *
  clear hmm hmM hs8
  generalize b % 8388608 = u at *
  generalize b / 16777216 = s at *
  go_enter Tryz.func177, Tryz.ntmps177
  go_upto_region 1 with (refine wpList_allocA AW rfl rfl ?_)
  generalize w.alloc (.cells (wn 0) 51) = W0 at *
  go_wp2_with (first | (go_at_call 182; refine (HF.out _).mono ?_; rintro e w1 ⟨rfl, b1⟩; have J1 := hide ((b1.block _ (lt_heap J0.out)).trans J0.out); have B1 := hide (below_next B0.out b1); clear b1) | (go_at_call 234; refine (HL.out _).mono ?_; rintro e w2 ⟨rfl, b2⟩; have J2 := hide ((b2.block _ (lt_heap J1.out)).trans J1.out); have B2 := hide (below_next B1.out b2); clear b2) | refine wpList_storeA AW rfl _ _ rfl _ (wn T) (wn_size _) (wn_one _) rfl rfl (wn 0) (wn_size 0) 51 J2.out ?_)
  exact bodyPost_ret (v := .tuple #[.agg (wn T), .bool ov]) (resA2 AW Tryz.results177 _ _ w.heap.size 51 (wn T) (wn_size _) rfl (setRow_heap _ _ _ _ _ _ J2.out) _ (by rfl)) rfl ⟨rfl, below_setRow B2.out (Nat.le_refl _) _⟩
end
end Go.Proofs.YtcoojkpimbddlaaGreatDoor
