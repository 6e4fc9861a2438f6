/- The document's Add; wide.Low, Div by one word, awake, Sum. -/
import Derived.Test.YtmfpnlnhebjelaaWi
namespace Go.Proofs.Ytmfpnlnhebjelaa
open Go.RowKit
open Go.Deep
/-- The load of a whole array, as an operation of a quiet walk. -/
theorem quiet_loadA {C : World → Prop} {a : Act} {o : Oper} {K : Act → Prop} {t : TypeId} {n : Nat} {z : Array Value} (A : Arr t n z) (x : Operand) (ho : o.op = .load t x) (g : Nat) (hx : a.eval x = .pointer (some ⟨g, 0, none⟩)) (c : Array Value) (hn : c.size = n) (t' : TypeId) (hg : ∀ W, C W → W.heap[g]? = some (.cells c t' (0, 0)))
    (hk : K (a.put o.dst (.agg c))) : o.quiet Try.prog a C K := by
  refine ⟨.agg c, fun W hC => ?_, hk⟩
  unfold Oper.quietAt execOp
  simp only [ho, hx, Sem.run_bind, ld_row A hn (hg W hC), Result.andThen_ok, Sem.run_pure]
  exact ⟨rfl, rfl⟩
theorem quiet_build0 {C : World → Prop} {a : Act} {o : Oper} {K : Act → Prop} {t : TypeId} {n : Nat} {z : Array Value} (A : Arr t n z) (ho : o.op = .build t #[]) (hk : K (a.put o.dst (.agg z))) : o.quiet Try.prog a C K := by
  refine ⟨.agg z, fun W hC => ?_, hk⟩
  unfold Oper.quietAt execOp
  simp only [ho, List.map_toArray, List.map_nil, A.build, Sem.run_bind, Result.andThen_ok, Sem.run_pure]
  exact ⟨rfl, rfl⟩
theorem quiet_build1 {C : World → Prop} {a : Act} {o : Oper} {K : Act → Prop} {t : TypeId} (x : Operand) (ho : o.op = .build t #[(0, x)]) (X : Int) (c : Array Value) (hr : ∀ W, (Instr.build t #[(0, .int .u64 X)]).run Try.prog W = .ok (.agg c) W) (hx : a.eval x = .int .u64 X) (hk : K (a.put o.dst (.agg c))) : o.quiet Try.prog a C K := by
  refine ⟨.agg c, fun W hC => ?_, hk⟩
  unfold Oper.quietAt execOp
  simp only [ho, List.map_toArray, List.map_cons, List.map_nil, hx, hr W, Sem.run_bind, Result.andThen_ok, Sem.run_pure]
  exact ⟨rfl, rfl⟩
/-- Arrays held against each other by '!=', as an operation of a quiet walk. -/
theorem quiet_neqW {C : World → Prop} {a : Act} {o : Oper} {K : Act → Prop} (t : TypeId) (x y : Operand) (t2 : TypeId) (ho : o.op = .binOp .neq t x y t2) (c d : Array Value) (hx : a.eval x = .agg c) (hy : a.eval y = .agg d) (hg : Try.prog.eqGuardType Try.prog.depth t = false)
    (v : Bool) (hr : ∀ W, (Op.equalIn 10000 t (.agg c) (.agg d)).run Try.prog W = .ok v W) (hk : K (a.put o.dst (.bool !v))) : o.quiet Try.prog a C K := by
  refine ⟨.bool !v, fun W _ => ?_, hk⟩
  unfold Oper.quietAt execOp
  simp only [ho, hx, hy, Sem.run_bind, run_eqGuard_agg (P := Try.prog) W .neq t x y c d hg, run_neq_struct, hr W, Result.andThen_ok, Sem.run_pure]
  exact ⟨rfl, rfl⟩
def ldW (x : Value) : Sem Value := Instr.loadAt 24 x
theorem ldW_eq (x : Value) : Instr.loadAt 24 x = ldW x := rfl
def svW (x y : Value) : Sem Unit := Instr.storeAt 24 x y
theorem svW_eq (x y : Value) : Instr.storeAt 24 x y = svW x y := rfl
def ldR (x : Value) : Sem Value := Instr.loadAt 23 x
theorem ldR_eq (x : Value) : Instr.loadAt 23 x = ldR x := rfl
def svR (x y : Value) : Sem Unit := Instr.storeAt 23 x y
theorem svR_eq (x y : Value) : Instr.storeAt 23 x y = svR x y := rfl
theorem ldW_row {W : World} {g n : Nat} {t' : TypeId} (h : W.heap[g]? = some (.cells (wn n) t' (0, 0))) : (ldW (.pointer (some ⟨g, 0, none⟩))).run Try.prog W = .ok (.agg (wn n)) W := ld_row AW (wn_size n) h
theorem ldR_row {W : World} {g n : Nat} {t' : TypeId} (h : W.heap[g]? = some (.cells (wn n) t' (0, 0))) : (ldR (.pointer (some ⟨g, 0, none⟩))).run Try.prog W = .ok (.agg (wn n)) W := ld_row AR (wn_size n) h
theorem svW_row {w : World} {g m : Nat} {t : TypeId} (hg : w.heap[g]? = some (.cells (wn m) t (0, 0))) (n : Nat) : (svW (.pointer (some ⟨g, 0, none⟩)) (.agg (wn n))).run Try.prog w = .ok () (w.setRow g (wn n)) := by
  unfold svW
  simp only [Instr.storeAt, Instr.sureAddr, Sem.run_bind, Sem.run_pure, Result.andThen_ok]
  rw [run_storeVar_row w g t 24 (wn m) (wn n) hg AW.info (by rw [wn_size, wn_size]) (wn_one _)]
theorem svR_row {w : World} {g m : Nat} {t : TypeId} (hg : w.heap[g]? = some (.cells (wn m) t (0, 0))) (n : Nat) : (svR (.pointer (some ⟨g, 0, none⟩)) (.agg (wn n))).run Try.prog w = .ok () (w.setRow g (wn n)) := by
  unfold svR
  simp only [Instr.storeAt, Instr.sureAddr, Sem.run_bind, Sem.run_pure, Result.andThen_ok]
  rw [run_storeVar_row w g t 23 (wn m) (wn n) hg AR.info (by rw [wn_size, wn_size]) (wn_one _)]
theorem ref_carry (a b c : Nat) (ha : a < 18446744073709551616) (hb : b < 18446744073709551616) (hc : c ≤ 1) : IntKind.u64.wrap (IntKind.u64.wrap ((a : Int) + c) + b) = (((a + b + c) % 18446744073709551616 : Nat) : Int) ∧ (IntKind.u64.wrap ((a : Int) + c) < a → (a + b + c) / 18446744073709551616 = 1) ∧ (¬ IntKind.u64.wrap ((a : Int) + c) < a → IntKind.u64.wrap (IntKind.u64.wrap ((a : Int) + c) + b) < IntKind.u64.wrap ((a : Int) + c) → (a + b + c) / 18446744073709551616 = 1) ∧ (¬ IntKind.u64.wrap ((a : Int) + c) < a → ¬ IntKind.u64.wrap (IntKind.u64.wrap ((a : Int) + c) + b) < IntKind.u64.wrap ((a : Int) + c) → (a + b + c) / 18446744073709551616 = 0) := by
  simp only [IntKind.wrap_u64]
  refine ⟨by omega, by omega, by omega, by omega⟩
section
set_option maxRecDepth 10000
set_option maxHeartbeats 2000000
theorem radd_any (m n : Nat) (hm : m < M) (hn : n < M) (w : World) : Calls Try.prog 44 #[.agg (wn m), .agg (wn n)] w fun e w' => e = .returned (.tuple #[.agg (wn (m + n)), .bool (decide (M ≤ m + n))]) ∧ Below w.heap.size w w' := by
  have J0 := hide ((Ad.start w 23 m n).congr (fun i _ => wf_zero (m + n) i))
  go_enter Try.func44, Try.ntmps44
  go_wp2_with (first | refine wpList_boxA rfl _ rfl (wn m) rfl ?_ | refine wpList_boxA rfl _ rfl (wn n) rfl ?_ | refine wpList_allocA AR rfl rfl ?_ | refine wpList_buildA AR rfl rfl ?_ | refine wpList_store_newA AR rfl _ _ rfl _ rfl (wn 0) (wn_size _) (wn_one _) rfl rfl ?_)
  generalize (((w.alloc (.cells (wn m) 23)).alloc (.cells (wn n) 23)).alloc (.cells (wn 0) 23)).alloc (.cells (wn 0) 23) = W0 at *
  go_loopw [7, 8, 9, 10] (fun c d _ _ wr => ∃ i : Nat, i ≤ 4 ∧ c = .int .u64 ((cy m n i : Nat) : Int) ∧ d = .int .i64 i ∧ Hid (Ad w wr 23 m n (wf (m + n) i))) (fun _ d _ _ _ => (4 - intOf d).toNat)
  case atStart => exact ⟨0, by omega, by rw [cy_zero]; rfl, rfl, J0⟩
  case round =>
    clear J0
    obtain ⟨i, hi, rfl, rfl, J⟩ := hrel
    by_cases hlt : i < 4
    · have ha := J.out.a.cell hlt
      have hb := J.out.b.cell hlt
      have ho := J.out.o.cell hlt
      have hf := J.out.o.fz i
      have hi4 : (i : Int) < 4 := by omega
      have HR : Hid (∀ j, (if j = i then wd (m + n) i else wf (m + n) i j) = wf (m + n) (i + 1) j) := fun j => wf_step (m + n) i j
      obtain ⟨e1, e2, e3, e4⟩ := ref_carry (wd m i) (wd n i) (cy m n i) (wd_lt _ _) (wd_lt _ _) (cy_le _ _ _)
      rw [add_word] at e1
      rw [cy_step] at e2 e3 e4
      have hC1 := hide (cy_le m n (i + 1))
      generalize hc1 : cy m n (i + 1) = c1 at *
      have HC1 := hide hc1
      clear hc1
      generalize wd (m + n) i = s at *
      generalize hX : IntKind.u64.wrap ((wd m i : Int) + (cy m n i : Int)) = X at *
      by_cases t1 : X < (wd m i : Int)
      · have h1 := e2 t1
        subst h1
        clear e2 e3 e4
        go_wp2
        exact ⟨⟨i + 1, by omega, by rw [HC1.out]; rfl, by go_num, hide ((J.out.set i s).congr (fun k _ => HR.out k))⟩, by simp [intOf]; omega⟩
      · by_cases t2 : (s : Int) < X
        · have h1 := e3 t1 (by rw [e1]; exact t2)
          subst h1
          clear e2 e3 e4
          go_wp2
          exact ⟨⟨i + 1, by omega, by rw [HC1.out]; rfl, by go_num, hide ((J.out.set i s).congr (fun k _ => HR.out k))⟩, by simp [intOf]; omega⟩
        · have h1 := e4 t1 (by rw [e1]; exact t2)
          subst h1
          clear e2 e3 e4
          go_wp2
          exact ⟨⟨i + 1, by omega, by rw [HC1.out]; rfl, by go_num, hide ((J.out.set i s).congr (fun k _ => HR.out k))⟩, by simp [intOf]; omega⟩
    · have hke : i = 4 := by omega
      subst hke
      have H2 := (J.out.o.congr (wf_four (m + n))).heap
      have hE : (((cy m n 4 : Nat) : Int) == 1) = decide (M ≤ m + n) := by
        rw [cy_end m n hm hn]
        by_cases h : M ≤ m + n <;> simp [h]
      generalize cy m n 4 = c at *
      go_wp2_with (first | refine wpList_loadA AR rfl _ rfl _ rfl (wn (m + n)) (wn_size _) 23 H2 ?_ | refine wpList_storeA AR rfl _ _ rfl _ (wn (m + n)) (wn_size _) (wn_one _) rfl rfl (wn 0) (wn_size 0) 23 J.out.r ?_)
      exact bodyPost_ret (v := .tuple #[.agg (wn (m + n)), .bool (decide (M ≤ m + n))]) (resA2 AR Try.results44 _ _ (w.heap.size + 1 + 1) 23 (wn (m + n)) (wn_size _) rfl (setRow_heap _ _ _ _ _ _ J.out.r) _ (by rfl)) rfl ⟨rfl, below_setRow J.out.bel (by omega) _⟩
theorem low_yes (m : Nat) (hm : m < M) (h : m < 18446744073709551616) (w : World) : Calls Try.prog 15 #[.agg (wn m)] w fun e w' => e = .returned (.tuple #[.int .u64 (m : Int), .bool true]) ∧ Below w.heap.size w w' := by
  have hl : wd m 0 < M := Nat.lt_trans (wd_lt m 0) (by decide)
  have hv : m = wd m 0 := (wd_small m h).1.symm
  have he := hide fun W => eqW m (wd m 0) hm hl W
  have hd : decide (m = wd m 0) = true := by simp [← hv]
  rw [hd] at he
  have hF := hide fun W => from_any (wd m 0) (wd_lt m 0) W
  have hA : Hid (Nd (w.alloc (.cells (wn m) 24)) w.heap.size 24 4 (wd m)) := nd_alloc w 24 m
  have BB := hide ((Below.refl w.heap.size w).alloc (Nat.le_refl _) (.cells (wn m) 24))
  obtain ⟨x, hx⟩ : ∃ x, x = wd m 0 := ⟨_, rfl⟩
  rw [← hx] at he hF hv
  have HX := hide (And.intro hx hv)
  clear hx hl hm hv hd h
  go_enter Try.func15, Try.ntmps15
  go_upto_region 1 with (refine wpList_boxA rfl _ rfl (wn m) rfl ?_)
  generalize w.alloc (.cells (wn m) 24) = W0 at *
  obtain ⟨I, hne, F, i0, h0, hJ, hcl⟩ : ∃ (I : Type) (_ : Nonempty I) (F : I → World) (i0 : I), W0.drew = F i0 ∧ Hid (∀ i, Nd (F i) w.heap.size 24 4 (wd m) ∧ Below w.heap.size w (F i)) ∧ Hid (∀ i W', Below (F i).heap.size (F i) W' → ∃ j, W' = F j) :=
    ⟨{W : World // Nd W w.heap.size 24 4 (wd m) ∧ Below w.heap.size w W}, ⟨⟨_, hA.out, BB.out⟩⟩, Subtype.val, ⟨W0.drew, hA.out.drew, BB.out.drew⟩, rfl, fun i => i.2, fun i W' b => ⟨⟨W', i.2.1.below b, below_next i.2.2 b⟩, rfl⟩⟩
  have c0 : ∀ i, (F i).cell? ⟨w.heap.size, 0, none⟩ = some (.int .u64 (x : Int)) := fun i => by rw [HX.out.1]; exact (hJ.out i).1.cell (by omega)
  refine wp_region_class_lit (by kernel_rfl) (by kernel_rfl) i0 h0 ?_
  repeat (first | ((go_big_quiet_want; first | refine quiet_loadA AW _ (by rfl) _ (by rfl) (wn m) (wn_size _) 24 (fun W hC => by obtain ⟨i, rfl⟩ := hC; exact (hJ.out i).1.heap) ?_ | refine quiet_neqW 24 _ _ _ (by rfl) (wn m) (wn x) (by rfl) (by rfl) eqgW true he.out ?_); go_big_quiet_on; simp only [Act.put, List.setIfInBounds_toArray, List.set_cons_succ, List.set_cons_zero, Bool.not_true]) | go_big_quiet_step ((go_at_call 14; exact class_of hcl.out (hF.out _))))
  refine wpQuiet_nil ?_
  rintro _ ⟨iq, rfl⟩
  have e0 := c0 iq
  have B1 := hide (hJ.out iq).2
  clear c0 hcl h0 hJ
  generalize F iq = W3 at *
  go_wp2
  go_ret2
  exact ⟨by rw [HX.out.2]; rfl, B1.out⟩
theorem low_no (m : Nat) (hm : m < M) (h : ¬ m < 18446744073709551616) (w : World) : Calls Try.prog 15 #[.agg (wn m)] w fun e w' => e = .returned (.tuple #[.int .u64 0, .bool false]) ∧ Below w.heap.size w w' := by
  have hl : wd m 0 < M := Nat.lt_trans (wd_lt m 0) (by decide)
  have hv : ¬ m = wd m 0 := fun e => h (by rw [e]; exact wd_lt m 0)
  have he := hide fun W => eqW m (wd m 0) hm hl W
  have hd : decide (m = wd m 0) = false := by simp [hv]
  rw [hd] at he
  have hF := hide fun W => from_any (wd m 0) (wd_lt m 0) W
  have hA : Hid (Nd (w.alloc (.cells (wn m) 24)) w.heap.size 24 4 (wd m)) := nd_alloc w 24 m
  have BB := hide ((Below.refl w.heap.size w).alloc (Nat.le_refl _) (.cells (wn m) 24))
  obtain ⟨x, hx⟩ : ∃ x, x = wd m 0 := ⟨_, rfl⟩
  rw [← hx] at he hF hv
  have HX := hide (And.intro hx hv)
  clear hx hl hm hv hd h
  go_enter Try.func15, Try.ntmps15
  go_upto_region 1 with (refine wpList_boxA rfl _ rfl (wn m) rfl ?_)
  generalize w.alloc (.cells (wn m) 24) = W0 at *
  obtain ⟨I, hne, F, i0, h0, hJ, hcl⟩ : ∃ (I : Type) (_ : Nonempty I) (F : I → World) (i0 : I), W0.drew = F i0 ∧ Hid (∀ i, Nd (F i) w.heap.size 24 4 (wd m) ∧ Below w.heap.size w (F i)) ∧ Hid (∀ i W', Below (F i).heap.size (F i) W' → ∃ j, W' = F j) :=
    ⟨{W : World // Nd W w.heap.size 24 4 (wd m) ∧ Below w.heap.size w W}, ⟨⟨_, hA.out, BB.out⟩⟩, Subtype.val, ⟨W0.drew, hA.out.drew, BB.out.drew⟩, rfl, fun i => i.2, fun i W' b => ⟨⟨W', i.2.1.below b, below_next i.2.2 b⟩, rfl⟩⟩
  have c0 : ∀ i, (F i).cell? ⟨w.heap.size, 0, none⟩ = some (.int .u64 (x : Int)) := fun i => by rw [HX.out.1]; exact (hJ.out i).1.cell (by omega)
  refine wp_region_class_lit (by kernel_rfl) (by kernel_rfl) i0 h0 ?_
  repeat (first | ((go_big_quiet_want; first | refine quiet_loadA AW _ (by rfl) _ (by rfl) (wn m) (wn_size _) 24 (fun W hC => by obtain ⟨i, rfl⟩ := hC; exact (hJ.out i).1.heap) ?_ | refine quiet_neqW 24 _ _ _ (by rfl) (wn m) (wn x) (by rfl) (by rfl) eqgW false he.out ?_); go_big_quiet_on; simp only [Act.put, List.setIfInBounds_toArray, List.set_cons_succ, List.set_cons_zero, Bool.not_false]) | go_big_quiet_step ((go_at_call 14; exact class_of hcl.out (hF.out _))))
  refine wpQuiet_nil ?_
  rintro _ ⟨iq, rfl⟩
  have e0 := c0 iq
  have B1 := hide (hJ.out iq).2
  clear c0 hcl h0 hJ
  generalize F iq = W3 at *
  go_wp2
  go_ret2
  exact ⟨rfl, B1.out⟩
end
end Go.Proofs.Ytmfpnlnhebjelaa
