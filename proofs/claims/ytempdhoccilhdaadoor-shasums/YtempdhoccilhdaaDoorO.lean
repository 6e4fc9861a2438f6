/- The law ShaSteps: its walk. -/
import Derived.Test.YtempdhoccilhdaaDoorN
namespace Go.Proofs.YtempdhoccilhdaaDoor
open Go.RowKit
open Go.Deep
theorem wp_region_class_lit {I : Type} {F : I → World} {id : Nat} {Q : Exit → Act → World → Prop} {a : Act} {w : World} {l : List Oper} (hm : Tryd.prog.follows .mixedOrders = true) (hB : Region.lexB .any l.toArray = true) (i0 : I) (h0 : w.drew = F i0)
    (h : wpQuiet Tryd.prog l.toArray (fun w' => ∃ i, w' = F i) (fun a' => ∀ w', (∃ i, w' = F i) → Q .normal a' w') l a) : (Code.region id l.toArray true).wp Tryd.prog Q a w :=
  wp_region_quiet (C := fun w' => ∃ i, w' = F i) hm hB ⟨i0, h0⟩ (by simpa using h)
theorem class_of {I : Type} {F : I → World} {f : FuncId} {args : Array Value} {i : I} {v : Value} (hcl : ∀ i W', Below (F i).heap.size (F i) W' → ∃ j, W' = F j)
    (h : Calls Tryd.prog f args (F i) fun e w' => e = .returned v ∧ Below (F i).heap.size (F i) w') : Calls Tryd.prog f args (F i) fun e w'' => e = .returned v ∧ ∃ j, w'' = F j :=
  h.mono fun _ _ ⟨he, hb⟩ => ⟨he, hcl i _ hb⟩
theorem class_of_same {I : Type} {F : I → World} {f : FuncId} {args : Array Value} {i : I} {v : Value}
    (h : Calls Tryd.prog f args (F i) fun e w' => e = .returned v ∧ w' = F i) : Calls Tryd.prog f args (F i) fun e w'' => e = .returned v ∧ ∃ j, w'' = F j :=
  h.mono fun _ _ ⟨he, hb⟩ => ⟨he, i, hb⟩
/-- The load of a whole array. -/
theorem ld_row {t : TypeId} {n : Nat} {z : Array Value} (A : Arr t n z) {W : World} {g : Nat} {c : Array Value} {t' : TypeId} (hn : c.size = n) (h : W.heap[g]? = some (.cells c t' (0, 0))) : (Instr.loadAt t (.pointer (some ⟨g, 0, none⟩))).run Tryd.prog W = .ok (.agg c) W := by
  simp only [Instr.loadAt, Instr.sureAddr, Sem.run_bind, Sem.run_pure, Result.andThen]
  rcases A.und with ⟨m, e, hd⟩ | ⟨fs, hd⟩
  · exact run_loadVar_row W g t' t c (0, 0) _ h hd rfl (by rw [A.info, hn])
  · exact run_loadVar_row W g t' t c (0, 0) _ h hd rfl (by rw [A.info, hn])
theorem size29 (w : World) : (sizeOf 29).run Tryd.prog w = .ok 1 w := by kernel_rfl
/-- An array of words is equal to itself. -/
theorem eq_words (t : TypeId) (n : Nat) (ht : Tryd.prog.underlying t = some (.array n 29)) (l : List UInt32) (hl : l.length = n) (w : World) : (Op.equalIn 10000 t (.agg (uc l)) (.agg (uc l))).run Tryd.prog w = .ok true w := by
  rw [Op.equalIn]
  simp only [Sem.run_bind, run_underlying ht, Result.andThen_ok, size29, Std.Legacy.Range.forIn_eq_forIn_range', Std.Legacy.Range.size, Nat.sub_zero, Nat.add_sub_cancel, Nat.div_one]
  have hr : ∀ i ∈ List.range' 0 n 1, i < n := fun i hi => by simpa using (List.mem_range'_1.1 hi).2
  generalize List.range' 0 n 1 = r at hr ⊢
  induction r with
  | nil => simp
  | cons i r ih =>
    have hi : i < n := hr i (by simp)
    have hp : (Go.part 29 (uc l) (i * 1)).run Tryd.prog w = .ok (.int .u32 ((l.getD i 0).toNat : Int)) w := by
      simp [Go.part, isAgg, run_underlying Tryd.underlying29, uc, List.getElem?_eq_getElem (show i < l.length by omega)]
    have he := run_equalIn_int w 9998 29 .u32 .u32 ((l.getD i 0).toNat : Int) ((l.getD i 0).toNat : Int) Tryd.underlying29
    rw [beq_self_eq_true] at he
    simp only [List.forIn_cons, Sem.run_bind, hp, he, Result.andThen_ok, Bool.not_true, Bool.false_eq_true, if_false, Sem.run_pure]
    exact ih fun j hj => hr j (by simp [hj])
theorem eq31 (s : St) (W : World) : (Op.equalIn 10000 31 (.agg (uc s.list)) (.agg (uc s.list))).run Tryd.prog W = .ok true W :=
  eq_words 31 8 Tryd.underlying31 s.list rfl W
/-- Arrays held against each other, as an operation of a quiet walk. -/
theorem quiet_eql {C : World → Prop} {a : Act} {o : Oper} {K : Act → Prop} (t : TypeId) (x y : Operand) (t2 : TypeId) (ho : o.op = .binOp .eql t x y t2) (c d : Array Value) (hx : a.eval x = .agg c) (hy : a.eval y = .agg d) (hg : Tryd.prog.eqGuardType Tryd.prog.depth t = false)
    (v : Bool) (hr : ∀ W, (Op.equalIn 10000 t (.agg c) (.agg d)).run Tryd.prog W = .ok v W) (hk : K (a.put o.dst (.bool v))) : o.quiet Tryd.prog a C K := by
  refine ⟨.bool v, fun W _ => ?_, hk⟩
  unfold Oper.quietAt execOp
  simp only [ho, hx, hy, Sem.run_bind, run_eqGuard_agg (P := Tryd.prog) W .eql t x y c d hg, run_eql_struct, hr W, Result.andThen_ok, Sem.run_pure]
  exact ⟨rfl, rfl⟩
theorem eqg31 : Tryd.prog.eqGuardType Tryd.prog.depth 31 = false := by kernel_rfl
theorem eqg25 : Tryd.prog.eqGuardType Tryd.prog.depth 25 = false := by kernel_rfl
/-- What is known of the world in ShaSteps. -/
structure Js (w W : World) (s : St) (b : List UInt8) : Prop where
  a : W.heap[w.heap.size]? = some (.cells (uc s.list) 31 (0, 0))
  b : W.heap[w.heap.size + 1]? = some (.cells (hc b) 35 (0, 0))
  below : Below w.heap.size w W
  kg : Kg W
theorem Js.next {w W W' : World} {s : St} {b : List UInt8} (j : Js w W s b) (h : Below W.heap.size W W') : Js w W' s b :=
  ⟨(h.block _ (lt_heap j.a)).trans j.a, (h.block _ (lt_heap j.b)).trans j.b, j.below.trans (h.mono j.below.size), j.kg.next h⟩
attribute [local go_sem ↓] ld31_eq ld35_eq
section
set_option maxRecDepth 10000
set_option maxHeartbeats 4000000
theorem shaSteps_walk (s : St) (b : List UInt8) (hl : b.length = 64) (w : World) (hK : Kg w) : Calls Tryd.prog 4 #[.agg (uc s.list), .agg (hc b)] w fun e w' => e = .returned (.bool true) ∧ Below w.heap.size w w' := by
  have HA := hide fun W hW => awake_any W hW
  have H18 := hide fun W hW => step_any s b hl W hW
  have H19 := hide fun W => rstep_any s b hl W
  have he := hide fun W => eq31 (step s b) W
  have J : Hid (Js w ((w.alloc (.cells (uc s.list) 31)).alloc (.cells (hc b) 35)).drew s b) :=
    ⟨(blk2 w _ _).1, (blk2 w _ _).2, (two_below w _ _).drew, hK.next (two_below w (.cells (uc s.list) 31) (.cells (hc b) 35)).drew⟩
  clear hK
  generalize hE : (step s b).list = E at *
  clear hE
  go_enter Tryd.func4, Tryd.ntmps4
  go_upto_region 1 with (first | refine wpList_boxA rfl _ rfl (uc s.list) rfl ?_ | refine wpList_boxA rfl _ rfl (hc b) rfl ?_)
  obtain ⟨I, hne, F, i0, h0, hJ, hcl⟩ : ∃ (I : Type) (_ : Nonempty I) (F : I → World) (i0 : I), ((w.alloc (.cells (uc s.list) 31)).alloc (.cells (hc b) 35)).drew = F i0 ∧ Hid (∀ i, Js w (F i) s b) ∧ Hid (∀ i W', Below (F i).heap.size (F i) W' → ∃ j, W' = F j) :=
    ⟨{W : World // Js w W s b}, ⟨⟨_, J.out⟩⟩, Subtype.val, ⟨_, J.out⟩, rfl, fun i => i.2, fun i W' b => ⟨⟨W', i.2.next b⟩, rfl⟩⟩
  have l1 : ∀ i, (ld31 (.pointer (some ⟨w.heap.size, 0, none⟩))).run Tryd.prog (F i) = .ok (.agg (uc s.list)) (F i) := fun i => ld_row A31 rfl (hJ.out i).a
  have l2 : ∀ i, (ld35 (.pointer (some ⟨w.heap.size + 1, 0, none⟩))).run Tryd.prog (F i) = .ok (.agg (hc b)) (F i) := fun i => ld_row A35 (by rw [hc_size, hl]) (hJ.out i).b
  clear J
  refine wp_region_class_lit (by kernel_rfl) (by kernel_rfl) i0 h0 ?_
  repeat (first | (go_big_quiet_want; refine quiet_eql 31 _ _ _ (by rfl) (uc E) (uc E) (by rfl) (by rfl) eqg31 true he.out ?_; go_big_quiet_on; simp only [Act.put, List.setIfInBounds_toArray, List.set_cons_succ, List.set_cons_zero]) | go_big_quiet_step (first | (go_at_call 9; exact class_of hcl.out (HA.out _ (hJ.out _).kg)) | (go_at_call 18; exact class_of hcl.out (H18.out _ (hJ.out _).kg)) | (go_at_call 19; exact class_of hcl.out (H19.out _))))
  refine wpQuiet_nil ?_
  rintro _ ⟨iq, rfl⟩
  go_wp2
  go_ret
  exact ⟨rfl, (hJ.out iq).below⟩
end
end Go.Proofs.YtempdhoccilhdaaDoor
