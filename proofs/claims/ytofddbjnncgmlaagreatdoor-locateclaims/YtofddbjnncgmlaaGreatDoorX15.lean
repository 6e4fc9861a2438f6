/- The contracts of wide.Low, mulAdd, divWord; Div by one word; awake. The document's Add; wide.Low, Div by one word, awake, Sum. wide.Div by one word, awake. awake; wide.Sum; the law WideLists: its walk. -/
import Derived.Test.YtofddbjnncgmlaaGreatDoorX14
namespace Go.Proofs.YtofddbjnncgmlaaGreatDoor
open Go.RowKit
open Go.Deep
theorem div64_any (hi lo y : Nat) (hy : hi < y) (hl : lo < 18446744073709551616) (h64 : y < 18446744073709551616) (w : World) : Calls Tryz.prog 331 #[.int .u64 (hi : Int), .int .u64 (lo : Int), .int .u64 (y : Int)] w fun e w' => e = .returned (.tuple #[.int .u64 (((hi * 18446744073709551616 + lo) / y : Nat) : Int), .int .u64 (((hi * 18446744073709551616 + lo) % y : Nat) : Int)]) ∧ Below w.heap.size w w' := by
  rcases Nat.eq_zero_or_pos hi with h | h
  · subst h
    rw [Nat.zero_mul, Nat.zero_add]
    exact div64_small lo y hl hy w
  · exact div64_big hi lo y h hy hl h64 w
/-- A step of a division by one digit. -/
theorem div_step (B m y i : Nat) (hy : 0 < y) (hB : 0 < B) : (m / B ^ (i + 1) % y * B + dg B m i) / y = dg B (m / y) i ∧ (m / B ^ (i + 1) % y * B + dg B m i) % y = m / B ^ i % y := by
  unfold dg
  have e1 : m / B ^ (i + 1) = m / B ^ i / B := by rw [Nat.pow_succ, Nat.div_div_eq_div_mul]
  have e2 : m / y / B ^ i = m / B ^ i / y := by rw [Nat.div_div_eq_div_mul, Nat.div_div_eq_div_mul, Nat.mul_comm]
  rw [e1, e2]
  generalize m / B ^ i = N
  have hN := Nat.div_add_mod N B
  have hH := Nat.div_add_mod (N / B) y
  have hr := Nat.mod_lt (N / B) hy
  have hl := Nat.mod_lt N hB
  have key : N = y * (N / B / y * B) + (N / B % y * B + N % B) := by
    have : B * (N / B) = y * (N / B / y * B) + N / B % y * B := by
      conv => lhs; rw [← hH]
      rw [Nat.mul_add, Nat.mul_comm B (N / B % y), Nat.mul_comm B (y * _), Nat.mul_assoc]
    omega
  have hlt : (N / B % y * B + N % B) / y < B := by
    rw [Nat.div_lt_iff_lt_mul hy]
    have : (N / B % y + 1) * B ≤ y * B := Nat.mul_le_mul_right _ hr
    rw [Nat.add_mul] at this
    rw [Nat.mul_comm B y]
    omega
  refine ⟨?_, ?_⟩
  · conv => rhs; rw [key]
    rw [Nat.mul_add_div hy, Nat.mul_comm (N / B / y) B, Nat.mul_add_mod, Nat.mod_eq_of_lt hlt]
  · conv => rhs; rw [key]
    rw [Nat.mul_add_mod]
/-- Words of the quotient from i on, words of the number below. -/
def dwf (m y i j : Nat) : Nat := if i ≤ j then wd (m / y) j else wd m j
theorem dwf_four (m y j : Nat) (h : j < 4) : wd m j = dwf m y 4 j := by rw [dwf, if_neg (by omega)]
theorem dwf_zero (m y j : Nat) (_ : j < 4) : dwf m y 0 j = wd (m / y) j := by rw [dwf, if_pos (by omega)]
theorem dwf_step (m y i j : Nat) : (if j = i then wd (m / y) i else dwf m y (i + 1) j) = dwf m y i j := by
  unfold dwf
  by_cases e : j = i
  · rw [if_pos e, if_pos (by omega), e]
  · rw [if_neg e]
    by_cases e2 : i + 1 ≤ j
    · rw [if_pos e2, if_pos (by omega)]
    · rw [if_neg e2, if_neg (by omega)]
theorem dwf_at (m y i : Nat) : dwf m y (i + 1) i = wd m i := by rw [dwf, if_neg (by omega)]
/-- A number in a block of its own, an answer's place in the next. -/
structure Bd (w W : World) (t : TypeId) (f : Nat → Nat) : Prop where
  a : Nd W w.heap.size t 4 f
  r : W.heap[w.heap.size + 1]? = some (.cells (wn 0) t (0, 0))
  bel : Below w.heap.size w W
theorem Bd.start (w : World) (t : TypeId) (m : Nat) : Bd w ((w.alloc (.cells (wn m) t)).alloc (.cells (wn 0) t)) t (wd m) :=
  ⟨Nd.of_heap (blk2x w _ _).1, (blk2x w _ _).2, below2x w _ _⟩
section
variable {w W W' : World} {t : TypeId} {f : Nat → Nat}
theorem Bd.next (j : Bd w W t f) (h : Below W.heap.size W W') : Bd w W' t f :=
  ⟨j.a.below h, (h.block _ (lt_heap j.r)).trans j.r, below_next j.bel h⟩
theorem Bd.set (j : Bd w W t f) (i x : Nat) : Bd w (W.setCell ⟨w.heap.size, i, none⟩ (.int .u64 ((x : Nat) : Int))) t (fun k => if k = i then x else f k) :=
  ⟨j.a.set i x, (Below.heap_setCell _ _ _ _ (by simp)).trans j.r, j.bel.setCell (Nat.le_refl _) _⟩
theorem Bd.congr (j : Bd w W t f) {f' : Nat → Nat} (e : ∀ i, i < 4 → f i = f' i) : Bd w W t f' := ⟨j.a.congr e, j.r, j.bel⟩
end
section
set_option maxRecDepth 10000
set_option maxHeartbeats 1000000
theorem divWord_any (m y : Nat) (hm : m < M) (hy : 0 < y) (hy64 : y < 18446744073709551616) (w : World) : Calls Tryz.prog 296 #[.agg (wn m), .int .u64 (y : Int)] w fun e w' => e = .returned (.tuple #[.agg (wn (m / y)), .int .u64 ((m % y : Nat) : Int)]) ∧ Below w.heap.size w w' := by
  have J0 := hide ((Bd.start w 51 m).congr (fun i hi => dwf_four m y i hi))
  have HY := hide (And.intro hy hy64)
  have H0 : Hid (m / 18446744073709551616 ^ 4 % y = 0) := by
    unfold Hid
    rw [← M_eq, Nat.div_eq_of_lt hm, Nat.zero_mod]
  have H1 : Hid (m / 18446744073709551616 ^ 0 % y = m % y) := by unfold Hid; simp
  clear hy hy64 hm
  obtain ⟨qq, hqq⟩ : ∃ q, q = m / y := ⟨_, rfl⟩
  obtain ⟨rr, hrr⟩ : ∃ q, q = m % y := ⟨_, rfl⟩
  rw [← hqq, ← hrr]
  have HA := hide (And.intro hqq hrr)
  clear hqq hrr
  go_enter Tryz.func296, Tryz.ntmps296
  go_wp2_with (first | refine wpList_boxA rfl _ rfl (wn m) rfl ?_ | refine wpList_allocA AW rfl rfl ?_)
  generalize (w.alloc (.cells (wn m) 51)).alloc (.cells (wn 0) 51) = W0 at *
  go_loopw [6, 7] (fun c d wr => ∃ i : Nat, i ≤ 4 ∧ c = .int .u64 ((m / 18446744073709551616 ^ i % y : Nat) : Int) ∧ d = .int .i64 ((i : Int) - 1) ∧ Hid (Bd w wr 51 (dwf m y i))) (fun _ d _ => (1 + intOf d).toNat)
  case atStart => exact ⟨4, by omega, by rw [H0.out]; rfl, rfl, J0⟩
  case round =>
    clear J0
    obtain ⟨i, hi, rfl, rfl, J⟩ := hrel
    rcases i with _ | i
    · have h0 : ¬ (0 : Int) ≤ ((0 : Nat) : Int) - 1 := by omega
      have H2 := (J.out.a.congr (dwf_zero m y)).heap
      rw [H1.out, ← HA.out.2]
      rw [← HA.out.1] at H2
      go_wp2_with (first | refine wpList_loadA AW rfl _ rfl _ rfl (wn qq) (wn_size _) 51 H2 ?_ | refine wpList_storeA AW rfl _ _ rfl _ (wn qq) (wn_size _) (wn_one _) rfl rfl (wn 0) (wn_size 0) 51 J.out.r ?_)
      exact bodyPost_ret (v := .tuple #[.agg (wn qq), (.int .u64 (rr : Int))]) (resA2 AW Tryz.results296 _ _ (w.heap.size + 1) 51 (wn qq) (wn_size _) rfl (setRow_heap _ _ _ _ _ _ J.out.r) _ (by rfl)) rfl ⟨rfl, below_setRow J.out.bel (by omega) _⟩
    · have e1 : ((i + 1 : Nat) : Int) - 1 = i := by omega
      have hlt : i < 4 := by omega
      have hi4 : (i : Int) < 4 := by omega
      have b0 : (0 : Int) ≤ i := by omega
      have HD := hide fun W => div64_any (m / 18446744073709551616 ^ (i + 1) % y) (wd m i) y (Nat.mod_lt _ HY.out.1) (wd_lt _ _) HY.out.2 W
      have ds := div_step 18446744073709551616 m y i HY.out.1 (by decide)
      have ds1 : (m / 18446744073709551616 ^ (i + 1) % y * 18446744073709551616 + wd m i) / y = wd (m / y) i := ds.1
      have ds2 : (m / 18446744073709551616 ^ (i + 1) % y * 18446744073709551616 + wd m i) % y = m / 18446744073709551616 ^ i % y := ds.2
      rw [ds1, ds2] at HD
      have ha := J.out.a.cell hlt
      rw [dwf_at] at ha
      rw [e1]
      clear ds ds1 ds2
      have HR : Hid (∀ j, (if j = i then wd (m / y) i else dwf m y (i + 1) j) = dwf m y i j) := fun j => dwf_step m y i j
      obtain ⟨r1, hr1⟩ : ∃ r, r = m / 18446744073709551616 ^ (i + 1) % y := ⟨_, rfl⟩
      obtain ⟨r0, hr0⟩ : ∃ r, r = m / 18446744073709551616 ^ i % y := ⟨_, rfl⟩
      obtain ⟨q0, hq0⟩ : ∃ r, r = wd (m / y) i := ⟨_, rfl⟩
      rw [← hr1, ← hr0, ← hq0] at HD
      rw [← hr1]
      rw [← hq0] at HR
      have HR0 := hide hr0
      clear hr1 hq0 hr0
      go_wp2_with (go_at_call 331; refine (HD.out _).mono ?_; rintro e w3 ⟨rfl, b3⟩; have J3 := hide (J.out.next b3); have c3 := J3.out.a.cell hlt; have f3 := J3.out.a.fz i)
      exact ⟨⟨i, by omega, by rw [HR0.out], rfl, hide ((J3.out.set i q0).congr (fun j _ => HR.out j))⟩, by simp [intOf]; omega⟩
end
end Go.Proofs.YtofddbjnncgmlaaGreatDoor
namespace Go.Proofs.YtofddbjnncgmlaaGreatDoor
open Go.RowKit
open Go.Deep
/-- The load of a whole array, as an operation of a quiet walk. -/
theorem quiet_loadA {C : World → Prop} {a : Act} {o : Oper} {K : Act → Prop} {t : TypeId} {n : Nat} {z : Array Value} (A : Arr t n z) (x : Operand) (ho : o.op = .load t x) (g : Nat) (hx : a.eval x = .pointer (some ⟨g, 0, none⟩)) (c : Array Value) (hn : c.size = n) (t' : TypeId) (hg : ∀ W, C W → W.heap[g]? = some (.cells c t' (0, 0)))
    (hk : K (a.put o.dst (.agg c))) : o.quiet Tryz.prog a C K := by
  refine ⟨.agg c, fun W hC => ?_, hk⟩
  unfold Oper.quietAt execOp
  simp only [ho, hx, Sem.run_bind, ld_row A hn (hg W hC), Result.andThen_ok, Sem.run_pure]
  exact ⟨rfl, rfl⟩
theorem quiet_build0 {C : World → Prop} {a : Act} {o : Oper} {K : Act → Prop} {t : TypeId} {n : Nat} {z : Array Value} (A : Arr t n z) (ho : o.op = .build t #[]) (hk : K (a.put o.dst (.agg z))) : o.quiet Tryz.prog a C K := by
  refine ⟨.agg z, fun W hC => ?_, hk⟩
  unfold Oper.quietAt execOp
  simp only [ho, List.map_toArray, List.map_nil, A.build, Sem.run_bind, Result.andThen_ok, Sem.run_pure]
  exact ⟨rfl, rfl⟩
theorem quiet_build1 {C : World → Prop} {a : Act} {o : Oper} {K : Act → Prop} {t : TypeId} (x : Operand) (ho : o.op = .build t #[(0, x)]) (X : Int) (c : Array Value) (hr : ∀ W, (Instr.build t #[(0, .int .u64 X)]).run Tryz.prog W = .ok (.agg c) W) (hx : a.eval x = .int .u64 X) (hk : K (a.put o.dst (.agg c))) : o.quiet Tryz.prog a C K := by
  refine ⟨.agg c, fun W hC => ?_, hk⟩
  unfold Oper.quietAt execOp
  simp only [ho, List.map_toArray, List.map_cons, List.map_nil, hx, hr W, Sem.run_bind, Result.andThen_ok, Sem.run_pure]
  exact ⟨rfl, rfl⟩
/-- Arrays held against each other by '!=', as an operation of a quiet walk. -/
theorem quiet_neqW {C : World → Prop} {a : Act} {o : Oper} {K : Act → Prop} (t : TypeId) (x y : Operand) (t2 : TypeId) (ho : o.op = .binOp .neq t x y t2) (c d : Array Value) (hx : a.eval x = .agg c) (hy : a.eval y = .agg d) (hg : Tryz.prog.eqGuardType Tryz.prog.depth t = false)
    (v : Bool) (hr : ∀ W, (Op.equalIn 10000 t (.agg c) (.agg d)).run Tryz.prog W = .ok v W) (hk : K (a.put o.dst (.bool !v))) : o.quiet Tryz.prog a C K := by
  refine ⟨.bool !v, fun W _ => ?_, hk⟩
  unfold Oper.quietAt execOp
  simp only [ho, hx, hy, Sem.run_bind, run_eqGuard_agg (P := Tryz.prog) W .neq t x y c d hg, run_neq_struct, hr W, Result.andThen_ok, Sem.run_pure]
  exact ⟨rfl, rfl⟩
def ldW (x : Value) : Sem Value := Instr.loadAt 51 x
theorem ldW_eq (x : Value) : Instr.loadAt 51 x = ldW x := rfl
def svW (x y : Value) : Sem Unit := Instr.storeAt 51 x y
theorem svW_eq (x y : Value) : Instr.storeAt 51 x y = svW x y := rfl
def ldR (x : Value) : Sem Value := Instr.loadAt 50 x
theorem ldR_eq (x : Value) : Instr.loadAt 50 x = ldR x := rfl
def svR (x y : Value) : Sem Unit := Instr.storeAt 50 x y
theorem svR_eq (x y : Value) : Instr.storeAt 50 x y = svR x y := rfl
theorem ldW_row {W : World} {g n : Nat} {t' : TypeId} (h : W.heap[g]? = some (.cells (wn n) t' (0, 0))) : (ldW (.pointer (some ⟨g, 0, none⟩))).run Tryz.prog W = .ok (.agg (wn n)) W := ld_row AW (wn_size n) h
theorem ldR_row {W : World} {g n : Nat} {t' : TypeId} (h : W.heap[g]? = some (.cells (wn n) t' (0, 0))) : (ldR (.pointer (some ⟨g, 0, none⟩))).run Tryz.prog W = .ok (.agg (wn n)) W := ld_row AR (wn_size n) h
theorem svW_row {w : World} {g m : Nat} {t : TypeId} (hg : w.heap[g]? = some (.cells (wn m) t (0, 0))) (n : Nat) : (svW (.pointer (some ⟨g, 0, none⟩)) (.agg (wn n))).run Tryz.prog w = .ok () (w.setRow g (wn n)) := by
  unfold svW
  simp only [Instr.storeAt, Instr.sureAddr, Sem.run_bind, Sem.run_pure, Result.andThen_ok]
  rw [run_storeVar_row w g t 51 (wn m) (wn n) hg AW.info (by rw [wn_size, wn_size]) (wn_one _)]
theorem svR_row {w : World} {g m : Nat} {t : TypeId} (hg : w.heap[g]? = some (.cells (wn m) t (0, 0))) (n : Nat) : (svR (.pointer (some ⟨g, 0, none⟩)) (.agg (wn n))).run Tryz.prog w = .ok () (w.setRow g (wn n)) := by
  unfold svR
  simp only [Instr.storeAt, Instr.sureAddr, Sem.run_bind, Sem.run_pure, Result.andThen_ok]
  rw [run_storeVar_row w g t 50 (wn m) (wn n) hg AR.info (by rw [wn_size, wn_size]) (wn_one _)]
theorem ref_carry (a b c : Nat) (ha : a < 18446744073709551616) (hb : b < 18446744073709551616) (hc : c ≤ 1) : IntKind.u64.wrap (IntKind.u64.wrap ((a : Int) + c) + b) = (((a + b + c) % 18446744073709551616 : Nat) : Int) ∧ (IntKind.u64.wrap ((a : Int) + c) < a → (a + b + c) / 18446744073709551616 = 1) ∧ (¬ IntKind.u64.wrap ((a : Int) + c) < a → IntKind.u64.wrap (IntKind.u64.wrap ((a : Int) + c) + b) < IntKind.u64.wrap ((a : Int) + c) → (a + b + c) / 18446744073709551616 = 1) ∧ (¬ IntKind.u64.wrap ((a : Int) + c) < a → ¬ IntKind.u64.wrap (IntKind.u64.wrap ((a : Int) + c) + b) < IntKind.u64.wrap ((a : Int) + c) → (a + b + c) / 18446744073709551616 = 0) := by
  simp only [IntKind.wrap_u64]
  refine ⟨by omega, by omega, by omega, by omega⟩
section
set_option maxRecDepth 10000
set_option maxHeartbeats 2000000
theorem radd_any (m n : Nat) (hm : m < M) (hn : n < M) (w : World) : Calls Tryz.prog 163 #[.agg (wn m), .agg (wn n)] w fun e w' => e = .returned (.tuple #[.agg (wn (m + n)), .bool (decide (M ≤ m + n))]) ∧ Below w.heap.size w w' := by
  have J0 := hide ((Ad.start w 50 m n).congr (fun i _ => wf_zero (m + n) i))
  go_enter Tryz.func163, Tryz.ntmps163
  go_wp2_with (first | refine wpList_boxA rfl _ rfl (wn m) rfl ?_ | refine wpList_boxA rfl _ rfl (wn n) rfl ?_ | refine wpList_allocA AR rfl rfl ?_ | refine wpList_buildA AR rfl rfl ?_ | refine wpList_store_newA AR rfl _ _ rfl _ rfl (wn 0) (wn_size _) (wn_one _) rfl rfl ?_)
  generalize (((w.alloc (.cells (wn m) 50)).alloc (.cells (wn n) 50)).alloc (.cells (wn 0) 50)).alloc (.cells (wn 0) 50) = W0 at *
  go_loopw [7, 8, 9, 10] (fun c d _ _ wr => ∃ i : Nat, i ≤ 4 ∧ c = .int .u64 ((cy m n i : Nat) : Int) ∧ d = .int .i64 i ∧ Hid (Ad w wr 50 m n (wf (m + n) i))) (fun _ d _ _ _ => (4 - intOf d).toNat)
  case atStart => exact ⟨0, by omega, by rw [cy_zero]; rfl, rfl, J0⟩
  case round =>
    clear J0
    obtain ⟨i, hi, rfl, rfl, J⟩ := hrel
    by_cases hlt : i < 4
    · have ha := J.out.a.cell hlt
      have hb := J.out.b.cell hlt
      have ho := J.out.o.cell hlt
      have hf := J.out.o.fz i
      have hi4 : (i : Int) < 4 := by omega
      have HR : Hid (∀ j, (if j = i then wd (m + n) i else wf (m + n) i j) = wf (m + n) (i + 1) j) := fun j => wf_step (m + n) i j
      obtain ⟨e1, e2, e3, e4⟩ := ref_carry (wd m i) (wd n i) (cy m n i) (wd_lt _ _) (wd_lt _ _) (cy_le _ _ _)
      rw [add_word] at e1
      rw [cy_step] at e2 e3 e4
      have hC1 := hide (cy_le m n (i + 1))
      generalize hc1 : cy m n (i + 1) = c1 at *
      have HC1 := hide hc1
      clear hc1
      generalize wd (m + n) i = s at *
      generalize hX : IntKind.u64.wrap ((wd m i : Int) + (cy m n i : Int)) = X at *
      by_cases t1 : X < (wd m i : Int)
      · have h1 := e2 t1
        subst h1
        clear e2 e3 e4
        go_wp2
        exact ⟨⟨i + 1, by omega, by rw [HC1.out]; rfl, by go_num, hide ((J.out.set i s).congr (fun k _ => HR.out k))⟩, by simp [intOf]; omega⟩
      · by_cases t2 : (s : Int) < X
        · have h1 := e3 t1 (by rw [e1]; exact t2)
          subst h1
          clear e2 e3 e4
          go_wp2
          exact ⟨⟨i + 1, by omega, by rw [HC1.out]; rfl, by go_num, hide ((J.out.set i s).congr (fun k _ => HR.out k))⟩, by simp [intOf]; omega⟩
        · have h1 := e4 t1 (by rw [e1]; exact t2)
          subst h1
          clear e2 e3 e4
          go_wp2
          exact ⟨⟨i + 1, by omega, by rw [HC1.out]; rfl, by go_num, hide ((J.out.set i s).congr (fun k _ => HR.out k))⟩, by simp [intOf]; omega⟩
    · have hke : i = 4 := by omega
      subst hke
      have H2 := (J.out.o.congr (wf_four (m + n))).heap
      have hE : (((cy m n 4 : Nat) : Int) == 1) = decide (M ≤ m + n) := by
        rw [cy_end m n hm hn]
        by_cases h : M ≤ m + n <;> simp [h]
      generalize cy m n 4 = c at *
      go_wp2_with (first | refine wpList_loadA AR rfl _ rfl _ rfl (wn (m + n)) (wn_size _) 50 H2 ?_ | refine wpList_storeA AR rfl _ _ rfl _ (wn (m + n)) (wn_size _) (wn_one _) rfl rfl (wn 0) (wn_size 0) 50 J.out.r ?_)
      exact bodyPost_ret (v := .tuple #[.agg (wn (m + n)), .bool (decide (M ≤ m + n))]) (resA2 AR Tryz.results163 _ _ (w.heap.size + 1 + 1) 50 (wn (m + n)) (wn_size _) rfl (setRow_heap _ _ _ _ _ _ J.out.r) _ (by rfl)) rfl ⟨rfl, below_setRow J.out.bel (by omega) _⟩
theorem low_yes (m : Nat) (hm : m < M) (h : m < 18446744073709551616) (w : World) : Calls Tryz.prog 295 #[.agg (wn m)] w fun e w' => e = .returned (.tuple #[.int .u64 (m : Int), .bool true]) ∧ Below w.heap.size w w' := by
  have hl : wd m 0 < M := Nat.lt_trans (wd_lt m 0) (by decide)
  have hv : m = wd m 0 := (wd_small m h).1.symm
  have he := hide fun W => eqW m (wd m 0) hm hl W
  have hd : decide (m = wd m 0) = true := by simp [← hv]
  rw [hd] at he
  have hF := hide fun W => from_any (wd m 0) (wd_lt m 0) W
  have hA : Hid (Nd (w.alloc (.cells (wn m) 51)) w.heap.size 51 4 (wd m)) := nd_alloc w 51 m
  have BB := hide ((Below.refl w.heap.size w).alloc (Nat.le_refl _) (.cells (wn m) 51))
  obtain ⟨x, hx⟩ : ∃ x, x = wd m 0 := ⟨_, rfl⟩
  rw [← hx] at he hF hv
  have HX := hide (And.intro hx hv)
  clear hx hl hm hv hd h
  go_enter Tryz.func295, Tryz.ntmps295
  go_upto_region 1 with (refine wpList_boxA rfl _ rfl (wn m) rfl ?_)
  generalize w.alloc (.cells (wn m) 51) = W0 at *
  obtain ⟨I, hne, F, i0, h0, hJ, hcl⟩ : ∃ (I : Type) (_ : Nonempty I) (F : I → World) (i0 : I), W0.drew = F i0 ∧ Hid (∀ i, Nd (F i) w.heap.size 51 4 (wd m) ∧ Below w.heap.size w (F i)) ∧ Hid (∀ i W', Below (F i).heap.size (F i) W' → ∃ j, W' = F j) :=
    ⟨{W : World // Nd W w.heap.size 51 4 (wd m) ∧ Below w.heap.size w W}, ⟨⟨_, hA.out, BB.out⟩⟩, Subtype.val, ⟨W0.drew, hA.out.drew, BB.out.drew⟩, rfl, fun i => i.2, fun i W' b => ⟨⟨W', i.2.1.below b, below_next i.2.2 b⟩, rfl⟩⟩
  have c0 : ∀ i, (F i).cell? ⟨w.heap.size, 0, none⟩ = some (.int .u64 (x : Int)) := fun i => by rw [HX.out.1]; exact (hJ.out i).1.cell (by omega)
  refine wp_region_class_lit (by kernel_rfl) (by kernel_rfl) i0 h0 ?_
  repeat (first | ((go_big_quiet_want; first | refine quiet_loadA AW _ (by rfl) _ (by rfl) (wn m) (wn_size _) 51 (fun W hC => by obtain ⟨i, rfl⟩ := hC; exact (hJ.out i).1.heap) ?_ | refine quiet_neqW 51 _ _ _ (by rfl) (wn m) (wn x) (by rfl) (by rfl) eqgW true he.out ?_); go_big_quiet_on; simp only [Act.put, List.setIfInBounds_toArray, List.set_cons_succ, List.set_cons_zero, Bool.not_true]) | go_big_quiet_step ((go_at_call 240; exact class_of hcl.out (hF.out _))))
  refine wpQuiet_nil ?_
  rintro _ ⟨iq, rfl⟩
  have e0 := c0 iq
  have B1 := hide (hJ.out iq).2
  clear c0 hcl h0 hJ
  generalize F iq = W3 at *
  go_wp2
  go_ret2
  exact ⟨by rw [HX.out.2]; rfl, B1.out⟩
theorem low_no (m : Nat) (hm : m < M) (h : ¬ m < 18446744073709551616) (w : World) : Calls Tryz.prog 295 #[.agg (wn m)] w fun e w' => e = .returned (.tuple #[.int .u64 0, .bool false]) ∧ Below w.heap.size w w' := by
  have hl : wd m 0 < M := Nat.lt_trans (wd_lt m 0) (by decide)
  have hv : ¬ m = wd m 0 := fun e => h (by rw [e]; exact wd_lt m 0)
  have he := hide fun W => eqW m (wd m 0) hm hl W
  have hd : decide (m = wd m 0) = false := by simp [hv]
  rw [hd] at he
  have hF := hide fun W => from_any (wd m 0) (wd_lt m 0) W
  have hA : Hid (Nd (w.alloc (.cells (wn m) 51)) w.heap.size 51 4 (wd m)) := nd_alloc w 51 m
  have BB := hide ((Below.refl w.heap.size w).alloc (Nat.le_refl _) (.cells (wn m) 51))
  obtain ⟨x, hx⟩ : ∃ x, x = wd m 0 := ⟨_, rfl⟩
  rw [← hx] at he hF hv
  have HX := hide (And.intro hx hv)
  clear hx hl hm hv hd h
  go_enter Tryz.func295, Tryz.ntmps295
  go_upto_region 1 with (refine wpList_boxA rfl _ rfl (wn m) rfl ?_)
  generalize w.alloc (.cells (wn m) 51) = W0 at *
  obtain ⟨I, hne, F, i0, h0, hJ, hcl⟩ : ∃ (I : Type) (_ : Nonempty I) (F : I → World) (i0 : I), W0.drew = F i0 ∧ Hid (∀ i, Nd (F i) w.heap.size 51 4 (wd m) ∧ Below w.heap.size w (F i)) ∧ Hid (∀ i W', Below (F i).heap.size (F i) W' → ∃ j, W' = F j) :=
    ⟨{W : World // Nd W w.heap.size 51 4 (wd m) ∧ Below w.heap.size w W}, ⟨⟨_, hA.out, BB.out⟩⟩, Subtype.val, ⟨W0.drew, hA.out.drew, BB.out.drew⟩, rfl, fun i => i.2, fun i W' b => ⟨⟨W', i.2.1.below b, below_next i.2.2 b⟩, rfl⟩⟩
  have c0 : ∀ i, (F i).cell? ⟨w.heap.size, 0, none⟩ = some (.int .u64 (x : Int)) := fun i => by rw [HX.out.1]; exact (hJ.out i).1.cell (by omega)
  refine wp_region_class_lit (by kernel_rfl) (by kernel_rfl) i0 h0 ?_
  repeat (first | ((go_big_quiet_want; first | refine quiet_loadA AW _ (by rfl) _ (by rfl) (wn m) (wn_size _) 51 (fun W hC => by obtain ⟨i, rfl⟩ := hC; exact (hJ.out i).1.heap) ?_ | refine quiet_neqW 51 _ _ _ (by rfl) (wn m) (wn x) (by rfl) (by rfl) eqgW false he.out ?_); go_big_quiet_on; simp only [Act.put, List.setIfInBounds_toArray, List.set_cons_succ, List.set_cons_zero, Bool.not_false]) | go_big_quiet_step ((go_at_call 240; exact class_of hcl.out (hF.out _))))
  refine wpQuiet_nil ?_
  rintro _ ⟨iq, rfl⟩
  have e0 := c0 iq
  have B1 := hide (hJ.out iq).2
  clear c0 hcl h0 hJ
  generalize F iq = W3 at *
  go_wp2
  go_ret2
  exact ⟨rfl, B1.out⟩
end
end Go.Proofs.YtofddbjnncgmlaaGreatDoor
namespace Go.Proofs.YtofddbjnncgmlaaGreatDoor
open Go.RowKit
open Go.Deep
theorem Ad.next {w W W' : World} {t : TypeId} {m n : Nat} {f : Nat → Nat} (j : Ad w W t m n f) (h : Below W.heap.size W W') : Ad w W' t m n f :=
  ⟨j.a.below h, j.b.below h, (h.block _ (lt_heap j.r)).trans j.r, j.o.below h, below_next j.bel h⟩
theorem Ad.alloc {w W : World} {t : TypeId} {m n : Nat} {f : Nat → Nat} (j : Ad w W t m n f) (o : Obj) : Ad w (W.alloc o) t m n f := j.next ((Below.refl _ _).alloc (Nat.le_refl _) _)
theorem Ad.ne {w W : World} {t : TypeId} {m n : Nat} {f : Nat → Nat} (j : Ad w W t m n f) : w.heap.size + 1 + 1 + 1 < W.heap.size := j.o.lt
/-- Behind the two stores of an answer. -/
theorem two_rows {w W : World} {t : TypeId} {m n : Nat} {f : Nat → Nat} (j : Ad w W t m n f) (c d : Array Value) : ((W.setRow (w.heap.size + 1 + 1) c).setRow (w.heap.size + 1 + 1 + 1) d).heap[w.heap.size + 1 + 1]? = some (.cells c t (0, 0)) ∧ ((W.setRow (w.heap.size + 1 + 1) c).setRow (w.heap.size + 1 + 1 + 1) d).heap[w.heap.size + 1 + 1 + 1]? = some (.cells d t (0, 0)) ∧ Below w.heap.size w ((W.setRow (w.heap.size + 1 + 1) c).setRow (w.heap.size + 1 + 1 + 1) d) := by
  refine ⟨(setRow_other _ _ _ _ (by omega)).trans (setRow_heap _ _ _ _ _ _ j.r), setRow_heap _ _ _ _ _ _ ((setRow_other _ _ _ _ (by omega)).trans j.o.heap), below_setRow (below_setRow j.bel (by omega) _) (by omega) _⟩
attribute [local go_sem ↓] ldW_eq svW_eq
section
set_option maxRecDepth 10000
set_option maxHeartbeats 2000000
theorem div_word (m n : Nat) (hm : m < M) (h0 : 0 < n) (hn : n < 18446744073709551616) (w : World) : Calls Tryz.prog 241 #[.agg (wn m), .agg (wn n)] w fun e w' => e = .returned (.tuple #[.agg (wn (m / n)), .agg (wn (m % n)), .int .i64 0]) ∧ Below w.heap.size w w' := by
  have hnM : n < M := Nat.lt_trans hn (by decide)
  have J0 := hide (Ad.start w 51 m n)
  have HZ := hide fun W => zero_any n hnM W
  rw [show decide (n = 0) = false by simp; omega] at HZ
  have HL := hide fun W => low_yes n hnM hn W
  have HD := hide fun W => divWord_any m n hm h0 hn W
  have HF := hide fun W => from_any (m % n) (Nat.lt_trans (Nat.mod_lt m h0) hn) W
  clear hm h0 hn hnM
  generalize m / n = q at *
  generalize m % n = r at *
  go_enter Tryz.func241, Tryz.ntmps241
  go_upto_region 1 with (first | refine wpList_boxA rfl _ rfl (wn m) rfl ?_ | refine wpList_boxA rfl _ rfl (wn n) rfl ?_ | refine wpList_allocA AW rfl rfl ?_)
  generalize (((w.alloc (.cells (wn m) 51)).alloc (.cells (wn n) 51)).alloc (.cells (wn 0) 51)).alloc (.cells (wn 0) 51) = W0 at *
  have b0 := hide J0.out.b.heap
  go_upto_region 5 with (first | refine wpList_loadA AW rfl _ rfl _ rfl (wn n) (wn_size _) 51 b0.out ?_ | refine wpList_loadA AW rfl _ rfl _ rfl (wn n) (wn_size _) 51 b1.out ?_ | (go_at_call 169; refine (HZ.out _).mono ?_; rintro e w1 ⟨rfl, be⟩; have J1 := hide (J0.out.next be); have b1 := hide J1.out.b.heap; clear be) | (go_at_call 295; refine (HL.out _).mono ?_; rintro e w2 ⟨rfl, be⟩; have J2 := hide (J1.out.next be); have a2 := hide J2.out.a.heap; clear be))
  clear J0 b0 J1 b1 HZ HL
  go_upto_region 6 with (first | refine wpList_loadA AW rfl _ rfl _ rfl (wn m) (wn_size _) 51 a2.out ?_ | (go_at_call 296; refine (HD.out _).mono ?_; rintro e w3 ⟨rfl, be⟩; have J3 := hide (J2.out.next be); clear be) | refine wpList_allocA AW rfl rfl ?_ | refine wpList_store_newA AW rfl _ _ rfl _ rfl (wn q) (wn_size _) (wn_one _) rfl rfl ?_)
  clear J2 a2 HD
  have J4 := hide (J3.out.alloc (.cells (wn q) 51))
  have H9 := hide (heap_alloc_last w3 (.cells (wn q) 51))
  have L9 := hide H9.out
  generalize w3.alloc (.cells (wn q) 51) = W4 at *
  have hlt := hide J3.out.ne
  generalize w3.heap.size = g at *
  clear J3
  have l0 : (ldW (.pointer (some ⟨g, 0, none⟩))).run Tryz.prog W4.drew = .ok (.agg (wn q)) W4.drew := ldW_row (W := W4.drew) H9.out
  go_region_with (go_at_call 240; refine (HF.out _).mono ?_; rintro e w5 ⟨rfl, be⟩; have J5 := hide (J4.out.drew.next be); have l1 := ldW_row ((be.block _ (lt_heap H9.out)).trans H9.out); have s1 := svW_row J5.out.r q; have s2 := svW_row (w := w5.setRow (w.heap.size + 1 + 1) (wn q)) ((setRow_other _ _ _ _ (by omega)).trans J5.out.o.heap) r; clear be)
  all_goals (go_wp2; exact bodyPost_ret (v := .tuple #[.agg (wn q), .agg (wn r), .int .i64 0]) (resAA3 AW Tryz.results241 _ _ (w.heap.size + 1 + 1) (w.heap.size + 1 + 1 + 1) 51 (wn q) (wn r) (wn_size _) (wn_size _) rfl (two_rows J5.out _ _).1 rfl (two_rows J5.out _ _).2.1 _ (by rfl)) rfl ⟨rfl, (two_rows J5.out _ _).2.2⟩)
end
end Go.Proofs.YtofddbjnncgmlaaGreatDoor
namespace Go.Proofs.YtofddbjnncgmlaaGreatDoor
open Go.RowKit
open Go.Deep
theorem two_more {W : World} (A B : Obj) : ((W.alloc A).alloc B).heap[W.heap.size]? = some A ∧ ((W.alloc A).alloc B).heap[W.heap.size + 1]? = some B := blk2x W A B
theorem blk2s (w : World) (A B : Obj) (c : Array Value) : (((w.alloc A).alloc B).setRow w.heap.size c).heap[(w.alloc A).heap.size]? = some B := by
  have e : (w.alloc A).heap.size = w.heap.size + 1 := by simp
  rw [e]
  exact (setRow_other _ _ _ _ (by omega)).trans (blk2x w A B).2
/-- Two rows that were made and written. -/
theorem blk2w (w : World) (t : TypeId) (z c d : Array Value) : ((((w.alloc (.cells z t)).alloc (.cells z t)).setRow w.heap.size c).setRow (w.heap.size + 1) d).heap[w.heap.size]? = some (.cells c t (0, 0)) ∧ ((((w.alloc (.cells z t)).alloc (.cells z t)).setRow w.heap.size c).setRow (w.heap.size + 1) d).heap[w.heap.size + 1]? = some (.cells d t (0, 0)) ∧ Below w.heap.size w ((((w.alloc (.cells z t)).alloc (.cells z t)).setRow w.heap.size c).setRow (w.heap.size + 1) d) :=
  ⟨(setRow_other _ _ _ _ (by omega)).trans (setRow_heap _ _ _ _ _ _ (blk2x w _ _).1), setRow_heap _ _ _ _ _ _ ((setRow_other _ _ _ _ (by omega)).trans (blk2x w _ _).2), below_setRow (below_setRow (below2x w _ _) (Nat.le_refl _) _) (by omega) _⟩
theorem wd_four {m : Nat} : wn m = nc 4 (wd m) := rfl
/-- Numbers in a slice. -/
def Wds (w : World) (ao : Option Addr) (n : Nat) (id : Nat → Nat) : Prop := ∀ i, i < n → id i < M ∧ ∃ g off, ao = some ⟨g, off, none⟩ ∧ g < w.heap.size ∧ w.rangeAt g (off + i * 4) (wn (id i)).toList
theorem range_below {w W : World} {B g off : Nat} {cs : List Value} (hr : w.rangeAt g off cs) (hb : Below B w W) (hg : g < B) : W.rangeAt g off cs := fun j v hv => by
  have := hr j v hv
  rw [← this]
  exact hb.cell (p := ⟨g, off + j, none⟩) hg
section
set_option maxRecDepth 10000
set_option maxHeartbeats 2000000
end
end Go.Proofs.YtofddbjnncgmlaaGreatDoor
