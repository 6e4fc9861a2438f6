/- Regions with calls that make memory; arrays held against each other. -/
import Derived.Test.YtfldpejdpinppaaDoorN
namespace Go.Proofs.YtfldpejdpinppaaDoor
open Go.RowKit
open Go.Deep
theorem wp_region_class_lit {I : Type} {F : I → World} {id : Nat} {Q : Exit → Act → World → Prop} {a : Act} {w : World} {l : List Oper} (hm : Tryd.prog.follows .mixedOrders = true) (hB : Region.lexB .any l.toArray = true) (i0 : I) (h0 : w.drew = F i0)
    (h : wpQuiet Tryd.prog l.toArray (fun w' => ∃ i, w' = F i) (fun a' => ∀ w', (∃ i, w' = F i) → Q .normal a' w') l a) : (Code.region id l.toArray true).wp Tryd.prog Q a w :=
  wp_region_quiet (C := fun w' => ∃ i, w' = F i) hm hB ⟨i0, h0⟩ (by simpa using h)
theorem class_of {I : Type} {F : I → World} {f : FuncId} {args : Array Value} {i : I} {v : Value} (hcl : ∀ i W', Below (F i).heap.size (F i) W' → ∃ j, W' = F j)
    (h : Calls Tryd.prog f args (F i) fun e w' => e = .returned v ∧ Below (F i).heap.size (F i) w') : Calls Tryd.prog f args (F i) fun e w'' => e = .returned v ∧ ∃ j, w'' = F j :=
  h.mono fun _ _ ⟨he, hb⟩ => ⟨he, hcl i _ hb⟩
theorem class_of_same {I : Type} {F : I → World} {f : FuncId} {args : Array Value} {i : I} {v : Value}
    (h : Calls Tryd.prog f args (F i) fun e w' => e = .returned v ∧ w' = F i) : Calls Tryd.prog f args (F i) fun e w'' => e = .returned v ∧ ∃ j, w'' = F j :=
  h.mono fun _ _ ⟨he, hb⟩ => ⟨he, i, hb⟩
/-- The load of a whole array. -/
theorem ld_row {t : TypeId} {n : Nat} {z : Array Value} (A : Arr t n z) {W : World} {g : Nat} {c : Array Value} {t' : TypeId} (hn : c.size = n) (h : W.heap[g]? = some (.cells c t' (0, 0))) : (Instr.loadAt t (.pointer (some ⟨g, 0, none⟩))).run Tryd.prog W = .ok (.agg c) W := by
  simp only [Instr.loadAt, Instr.sureAddr, Sem.run_bind, Sem.run_pure, Result.andThen]
  rcases A.und with ⟨m, e, hd⟩ | ⟨fs, hd⟩
  · exact run_loadVar_row W g t' t c (0, 0) _ h hd rfl (by rw [A.info, hn])
  · exact run_loadVar_row W g t' t c (0, 0) _ h hd rfl (by rw [A.info, hn])
theorem size29 (w : World) : (sizeOf 22).run Tryd.prog w = .ok 1 w := by kernel_rfl
/-- An array of words is equal to itself. -/
theorem eq_words (t : TypeId) (n : Nat) (ht : Tryd.prog.underlying t = some (.array n 22)) (l : List UInt32) (hl : l.length = n) (w : World) : (Op.equalIn 10000 t (.agg (uc l)) (.agg (uc l))).run Tryd.prog w = .ok true w := by
  rw [Op.equalIn]
  simp only [Sem.run_bind, run_underlying ht, Result.andThen_ok, size29, Std.Legacy.Range.forIn_eq_forIn_range', Std.Legacy.Range.size, Nat.sub_zero, Nat.add_sub_cancel, Nat.div_one]
  have hr : ∀ i ∈ List.range' 0 n 1, i < n := fun i hi => by simpa using (List.mem_range'_1.1 hi).2
  generalize List.range' 0 n 1 = r at hr ⊢
  induction r with
  | nil => simp
  | cons i r ih =>
    have hi : i < n := hr i (by simp)
    have hp : (Go.part 22 (uc l) (i * 1)).run Tryd.prog w = .ok (.int .u32 ((l.getD i 0).toNat : Int)) w := by
      simp [Go.part, isAgg, run_underlying Tryd.underlying22, uc, List.getElem?_eq_getElem (show i < l.length by omega)]
    have he := run_equalIn_int w 9998 22 .u32 .u32 ((l.getD i 0).toNat : Int) ((l.getD i 0).toNat : Int) Tryd.underlying22
    rw [beq_self_eq_true] at he
    simp only [List.forIn_cons, Sem.run_bind, hp, he, Result.andThen_ok, Bool.not_true, Bool.false_eq_true, if_false, Sem.run_pure]
    exact ih fun j hj => hr j (by simp [hj])
theorem eq31 (s : St) (W : World) : (Op.equalIn 10000 116 (.agg (uc s.list)) (.agg (uc s.list))).run Tryd.prog W = .ok true W :=
  eq_words 116 8 Tryd.underlying116 s.list rfl W
/-- Arrays held against each other, as an operation of a quiet walk. -/
theorem quiet_eql {C : World → Prop} {a : Act} {o : Oper} {K : Act → Prop} (t : TypeId) (x y : Operand) (t2 : TypeId) (ho : o.op = .binOp .eql t x y t2) (c d : Array Value) (hx : a.eval x = .agg c) (hy : a.eval y = .agg d) (hg : Tryd.prog.eqGuardType Tryd.prog.depth t = false)
    (v : Bool) (hr : ∀ W, (Op.equalIn 10000 t (.agg c) (.agg d)).run Tryd.prog W = .ok v W) (hk : K (a.put o.dst (.bool v))) : o.quiet Tryd.prog a C K := by
  refine ⟨.bool v, fun W _ => ?_, hk⟩
  unfold Oper.quietAt execOp
  simp only [ho, hx, hy, Sem.run_bind, run_eqGuard_agg (P := Tryd.prog) W .eql t x y c d hg, run_eql_struct, hr W, Result.andThen_ok, Sem.run_pure]
  exact ⟨rfl, rfl⟩
theorem eqg31 : Tryd.prog.eqGuardType Tryd.prog.depth 116 = false := by kernel_rfl
theorem eqg25 : Tryd.prog.eqGuardType Tryd.prog.depth 31 = false := by kernel_rfl
theorem eqb (t : TypeId) (n : Nat) (ht : Tryd.prog.underlying t = some (.array n 5)) (l : List UInt8) (hl : l.length = n) (W : World) : (Op.equalIn 10000 t (.agg (hc l)) (.agg (hc l))).run Tryd.prog W = .ok true W := by
  have e := run_equalIn_bytes (P := Tryd.prog) W 9998 t 5 n ht Tryd.underlying5 size5 l l hl hl
  rw [show (l == l) = true from by simp] at e
  exact e
theorem below_next {w w1 w2 : World} (B : Below w.heap.size w w1) (b : Below w1.heap.size w1 w2) : Below w.heap.size w w2 := B.trans (b.mono B.size)
/-- Arrays held against each other, as an operation of a walk, guarded or not. -/
theorem wpList_eql {w : World} {ops : Array Oper} {rest : List Oper} {o : Oper} {a : Act} {Q : Exit → Act → World → Prop} (t : TypeId) (x y : Operand) (t2 : TypeId) (ho : o.op = .binOp .eql t x y t2) (c d : Array Value) (hx : a.eval x = .agg c) (hy : a.eval y = .agg d) (hw : Region.wanted o (yielded ops a.tmps) = true)
    (hg : Tryd.prog.eqGuardType Tryd.prog.depth t = false) (v : Bool) (hr : ∀ W, (Op.equalIn 10000 t (.agg c) (.agg d)).run Tryd.prog W = .ok v W)
    (h : wpList Tryd.prog ops Q rest (a.put o.dst (.bool v)) w) : wpList Tryd.prog ops Q (o :: rest) a w := by
  refine wpList_step fun K hK => ?_
  rw [if_pos hw]
  unfold Oper.wp execOp
  simp only [ho, hx, hy, Sem.run_bind, run_eqGuard_agg (P := Tryd.prog) w .eql t x y c d hg, run_eql_struct, hr w, Result.andThen_ok, Sem.run_pure]
  exact hK _ _ h
theorem wpList_neq {w : World} {ops : Array Oper} {rest : List Oper} {o : Oper} {a : Act} {Q : Exit → Act → World → Prop} (t : TypeId) (x y : Operand) (t2 : TypeId) (ho : o.op = .binOp .neq t x y t2) (c d : Array Value) (hx : a.eval x = .agg c) (hy : a.eval y = .agg d) (hw : Region.wanted o (yielded ops a.tmps) = true)
    (hg : Tryd.prog.eqGuardType Tryd.prog.depth t = false) (v : Bool) (hr : ∀ W, (Op.equalIn 10000 t (.agg c) (.agg d)).run Tryd.prog W = .ok v W)
    (h : wpList Tryd.prog ops Q rest (a.put o.dst (.bool !v)) w) : wpList Tryd.prog ops Q (o :: rest) a w := by
  refine wpList_step fun K hK => ?_
  rw [if_pos hw]
  unfold Oper.wp execOp
  simp only [ho, hx, hy, Sem.run_bind, run_eqGuard_agg (P := Tryd.prog) w .neq t x y c d hg, run_neq_struct, hr w, Result.andThen_ok, Sem.run_pure]
  exact hK _ _ h
end Go.Proofs.YtfldpejdpinppaaDoor
