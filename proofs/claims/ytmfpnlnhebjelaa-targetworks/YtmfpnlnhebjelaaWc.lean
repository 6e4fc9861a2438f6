/- Numbers held against each other, numbers of one word. -/
import Derived.Test.YtmfpnlnhebjelaaWb
namespace Go.Proofs.Ytmfpnlnhebjelaa
open Go.RowKit
open Go.Deep
theorem size22 (w : World) : (sizeOf 22).run Try.prog w = .ok 1 w := by kernel_rfl
theorem eqgW : Try.prog.eqGuardType Try.prog.depth 24 = false := by kernel_rfl
theorem eqgR : Try.prog.eqGuardType Try.prog.depth 23 = false := by kernel_rfl
set_option maxRecDepth 20000 in
theorem eq_nc (t : TypeId) (k : Nat) (ht : Try.prog.underlying t = some (.array k 22)) (f g : Nat → Nat) (w : World) : (Op.equalIn 10000 t (.agg (nc k f)) (.agg (nc k g))).run Try.prog w = .ok ((List.range k).all fun i => f i == g i) w := by
  rw [List.range_eq_range', Op.equalIn]
  simp only [Sem.run_bind, run_underlying ht, Result.andThen_ok, size22, Std.Legacy.Range.forIn_eq_forIn_range', Std.Legacy.Range.size, Nat.sub_zero, Nat.add_sub_cancel, Nat.div_one]
  have hr : ∀ i ∈ List.range' 0 k 1, i < k := fun i hi => by simpa using (List.mem_range'_1.1 hi).2
  generalize List.range' 0 k 1 = r at hr ⊢
  induction r with
  | nil => simp
  | cons i r ih =>
    have hi : i < k := hr i (by simp)
    have hp : ∀ h : Nat → Nat, (Go.part 22 (nc k h) (i * 1)).run Try.prog w = .ok (.int .u64 ((h i : Nat) : Int)) w := fun h => by
      simp [Go.part, isAgg, run_underlying Try.underlying22, nc_at k h i hi]
    have he : (Op.equalIn 9999 22 (.int .u64 ((f i : Nat) : Int)) (.int .u64 ((g i : Nat) : Int))).run Try.prog w = .ok (f i == g i) w := by
      rw [run_equalIn_int w 9998 22 .u64 .u64 _ _ Try.underlying22]
      congr 1
      rw [Bool.eq_iff_iff]
      simp
      omega
    simp only [List.forIn_cons, Sem.run_bind, hp, he, Result.andThen_ok, List.all_cons]
    cases hb : (f i == g i)
    · simp
    · simp only [Bool.not_true, Bool.false_eq_true, if_false, Sem.run_pure, Result.andThen_ok, Bool.true_and]
      exact ih fun j hj => hr j (by simp [hj])
theorem all_words (m n : Nat) (hm : m < M) (hn : n < M) : ((List.range 4).all fun i => wd m i == wd n i) = decide (m = n) := by
  rw [Bool.eq_iff_iff]
  simp only [List.all_eq_true, List.mem_range, beq_iff_eq, decide_eq_true_eq]
  exact ⟨fun h => wd_ext hm hn h, fun h i _ => by rw [h]⟩
theorem eqW (m n : Nat) (hm : m < M) (hn : n < M) (w : World) : (Op.equalIn 10000 24 (.agg (wn m)) (.agg (wn n))).run Try.prog w = .ok (decide (m = n)) w := by
  rw [← all_words m n hm hn]
  exact eq_nc _ 4 Try.underlying24 _ _ w
theorem eqR (m n : Nat) (hm : m < M) (hn : n < M) (w : World) : (Op.equalIn 10000 23 (.agg (wn m)) (.agg (wn n))).run Try.prog w = .ok (decide (m = n)) w := by
  rw [← all_words m n hm hn]
  exact eq_nc _ 4 Try.underlying23 _ _ w
theorem wd_small (x : Nat) (h : x < 18446744073709551616) : wd x 0 = x ∧ wd x 1 = 0 ∧ wd x 2 = 0 ∧ wd x 3 = 0 := by
  simp only [wd, dg]
  omega
theorem wn_four (n : Nat) : wn n = #[.int .u64 ((wd n 0 : Nat) : Int), .int .u64 ((wd n 1 : Nat) : Int), .int .u64 ((wd n 2 : Nat) : Int), .int .u64 ((wd n 3 : Nat) : Int)] := rfl
theorem wn_small (x : Nat) (h : x < 18446744073709551616) : wn x = #[.int .u64 (x : Int), .int .u64 0, .int .u64 0, .int .u64 0] := by
  obtain ⟨h0, h1, h2, h3⟩ := wd_small x h
  rw [wn_four, h0, h1, h2, h3]
  rfl
theorem run_buildW (x : Nat) (h : x < 18446744073709551616) (w : World) : (Instr.build 24 #[(0, .int .u64 (x : Int))]).run Try.prog w = .ok (.agg (wn x)) w := by
  rw [wn_small x h]
  kernel_rfl
theorem run_buildR (x : Nat) (h : x < 18446744073709551616) (w : World) : (Instr.build 23 #[(0, .int .u64 (x : Int))]).run Try.prog w = .ok (.agg (wn x)) w := by
  rw [wn_small x h]
  kernel_rfl
section
variable {w : World} {ops : Array Oper} {rest : List Oper} {o : Oper} {a : Act} {Q : Exit → Act → World → Prop} {t : TypeId} {n : Nat} {z : Array Value}
theorem wpList_build1 (hw : Region.wanted o (yielded ops a.tmps) = true) (x : Operand) (ho : o.op = .build t #[(0, x)]) (X : Int) (c : Array Value) (hr : ∀ W, (Instr.build t #[(0, .int .u64 X)]).run Try.prog W = .ok (.agg c) W) (hx : a.eval x = .int .u64 X)
    (h : wpList Try.prog ops Q rest (a.put o.dst (.agg c)) w) : wpList Try.prog ops Q (o :: rest) a w := by
  refine wpList_step fun K hK => ?_
  rw [if_pos hw]
  unfold Oper.wp execOp
  simp only [ho, List.map_toArray, List.map_cons, List.map_nil, hx, hr w, Sem.run_bind, Result.andThen_ok, Sem.run_pure]
  exact hK _ _ h
theorem wpList_build0 (A : Arr t n z) (hw : Region.wanted o (yielded ops a.tmps) = true) (ho : o.op = .build t #[])
    (h : wpList Try.prog ops Q rest (a.put o.dst (.agg z)) w) : wpList Try.prog ops Q (o :: rest) a w := by
  refine wpList_step fun K hK => ?_
  rw [if_pos hw]
  unfold Oper.wp execOp
  simp only [ho, List.map_toArray, List.map_nil, A.build, Sem.run_bind, Result.andThen_ok, Sem.run_pure]
  exact hK _ _ h
theorem wpList_loadW (A : Arr t n z) (hw : Region.wanted o (yielded ops a.tmps) = true) (x : Operand) (ho : o.op = .load t x) (g : Nat) (hx : a.eval x = .pointer (some ⟨g, 0, none⟩)) (c : Array Value) (hn : c.size = n) (t' : TypeId) (hg : w.heap[g]? = some (.cells c t' (0, 0)))
    (h : wpList Try.prog ops Q rest (a.put o.dst (.agg c)) w) : wpList Try.prog ops Q (o :: rest) a w := by
  refine wpList_step fun K hK => ?_
  rw [if_pos hw]
  unfold Oper.wp execOp
  simp only [ho, hx, Sem.run_bind, ld_row A hn hg, Result.andThen_ok, Sem.run_pure]
  exact hK _ _ h
end
end Go.Proofs.Ytmfpnlnhebjelaa
