/- The document's step: the contract of its Step. The document's sums: the contract of its Sum. The sum of three letters, and awake. Regions with calls that make memory; arrays held against each other. -/
import Derived.Test.YtcoojkpimbddlaaGreatDoorX03
namespace Go.Proofs.YtcoojkpimbddlaaGreatDoor
open Go.RowKit
open Go.Deep
section
set_option maxRecDepth 10000
set_option maxHeartbeats 1000000
end
section
set_option maxRecDepth 10000
set_option maxHeartbeats 1000000
end
section
set_option maxRecDepth 10000
set_option maxHeartbeats 1000000
end
theorem wp_region_class_lit {I : Type} {F : I → World} {id : Nat} {Q : Exit → Act → World → Prop} {a : Act} {w : World} {l : List Oper} (hm : Tryz.prog.follows .mixedOrders = true) (hB : Region.lexB .any l.toArray = true) (i0 : I) (h0 : w.drew = F i0)
    (h : wpQuiet Tryz.prog l.toArray (fun w' => ∃ i, w' = F i) (fun a' => ∀ w', (∃ i, w' = F i) → Q .normal a' w') l a) : (Code.region id l.toArray true).wp Tryz.prog Q a w :=
  wp_region_quiet (C := fun w' => ∃ i, w' = F i) hm hB ⟨i0, h0⟩ (by simpa using h)
theorem class_of {I : Type} {F : I → World} {f : FuncId} {args : Array Value} {i : I} {v : Value} (hcl : ∀ i W', Below (F i).heap.size (F i) W' → ∃ j, W' = F j)
    (h : Calls Tryz.prog f args (F i) fun e w' => e = .returned v ∧ Below (F i).heap.size (F i) w') : Calls Tryz.prog f args (F i) fun e w'' => e = .returned v ∧ ∃ j, w'' = F j :=
  h.mono fun _ _ ⟨he, hb⟩ => ⟨he, hcl i _ hb⟩
theorem ld_row {t : TypeId} {n : Nat} {z : Array Value} (A : Arr t n z) {W : World} {g : Nat} {c : Array Value} {t' : TypeId} (hn : c.size = n) (h : W.heap[g]? = some (.cells c t' (0, 0))) : (Instr.loadAt t (.pointer (some ⟨g, 0, none⟩))).run Tryz.prog W = .ok (.agg c) W := by
  simp only [Instr.loadAt, Instr.sureAddr, Sem.run_bind, Sem.run_pure, Result.andThen]
  rcases A.und with ⟨m, e, hd⟩ | ⟨fs, hd⟩
  · exact run_loadVar_row W g t' t c (0, 0) _ h hd rfl (by rw [A.info, hn])
  · exact run_loadVar_row W g t' t c (0, 0) _ h hd rfl (by rw [A.info, hn])
theorem quiet_eql {C : World → Prop} {a : Act} {o : Oper} {K : Act → Prop} (t : TypeId) (x y : Operand) (t2 : TypeId) (ho : o.op = .binOp .eql t x y t2) (c d : Array Value) (hx : a.eval x = .agg c) (hy : a.eval y = .agg d) (hg : Tryz.prog.eqGuardType Tryz.prog.depth t = false)
    (v : Bool) (hr : ∀ W, (Op.equalIn 10000 t (.agg c) (.agg d)).run Tryz.prog W = .ok v W) (hk : K (a.put o.dst (.bool v))) : o.quiet Tryz.prog a C K := by
  refine ⟨.bool v, fun W _ => ?_, hk⟩
  unfold Oper.quietAt execOp
  simp only [ho, hx, hy, Sem.run_bind, run_eqGuard_agg (P := Tryz.prog) W .eql t x y c d hg, run_eql_struct, hr W, Result.andThen_ok, Sem.run_pure]
  exact ⟨rfl, rfl⟩
theorem eqg25 : Tryz.prog.eqGuardType Tryz.prog.depth 46 = false := by kernel_rfl
theorem below_next {w w1 w2 : World} (B : Below w.heap.size w w1) (b : Below w1.heap.size w1 w2) : Below w.heap.size w w2 := B.trans (b.mono B.size)
theorem wpList_eql {w : World} {ops : Array Oper} {rest : List Oper} {o : Oper} {a : Act} {Q : Exit → Act → World → Prop} (t : TypeId) (x y : Operand) (t2 : TypeId) (ho : o.op = .binOp .eql t x y t2) (c d : Array Value) (hx : a.eval x = .agg c) (hy : a.eval y = .agg d) (hw : Region.wanted o (yielded ops a.tmps) = true)
    (hg : Tryz.prog.eqGuardType Tryz.prog.depth t = false) (v : Bool) (hr : ∀ W, (Op.equalIn 10000 t (.agg c) (.agg d)).run Tryz.prog W = .ok v W)
    (h : wpList Tryz.prog ops Q rest (a.put o.dst (.bool v)) w) : wpList Tryz.prog ops Q (o :: rest) a w := by
  refine wpList_step fun K hK => ?_
  rw [if_pos hw]
  unfold Oper.wp execOp
  simp only [ho, hx, hy, Sem.run_bind, run_eqGuard_agg (P := Tryz.prog) w .eql t x y c d hg, run_eql_struct, hr w, Result.andThen_ok, Sem.run_pure]
  exact hK _ _ h
theorem wpList_neq {w : World} {ops : Array Oper} {rest : List Oper} {o : Oper} {a : Act} {Q : Exit → Act → World → Prop} (t : TypeId) (x y : Operand) (t2 : TypeId) (ho : o.op = .binOp .neq t x y t2) (c d : Array Value) (hx : a.eval x = .agg c) (hy : a.eval y = .agg d) (hw : Region.wanted o (yielded ops a.tmps) = true)
    (hg : Tryz.prog.eqGuardType Tryz.prog.depth t = false) (v : Bool) (hr : ∀ W, (Op.equalIn 10000 t (.agg c) (.agg d)).run Tryz.prog W = .ok v W)
    (h : wpList Tryz.prog ops Q rest (a.put o.dst (.bool !v)) w) : wpList Tryz.prog ops Q (o :: rest) a w := by
  refine wpList_step fun K hK => ?_
  rw [if_pos hw]
  unfold Oper.wp execOp
  simp only [ho, hx, hy, Sem.run_bind, run_eqGuard_agg (P := Tryz.prog) w .neq t x y c d hg, run_neq_struct, hr w, Result.andThen_ok, Sem.run_pure]
  exact hK _ _ h
end Go.Proofs.YtcoojkpimbddlaaGreatDoor
