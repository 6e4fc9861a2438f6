/- tx.isNull, tx.Base and the document's Base: their contracts. -/
import Derived.Test.YtdkemnjkhclbkaaDoorY32
import Derived.Test.YtdkemnjkhclbkaaDoorY14
namespace Go.Proofs.YtdkemnjkhclbkaaDoor
open Go.RowKit
open Go.Deep
set_option linter.unusedVariables false
/-- The point of a coinbase's input. -/
def nullP : Tp := ⟨zeros, 4294967295, zeros_len⟩
theorem bldP (W : World) : (Instr.build 87 #[(1, .int .u32 4294967295)]).run Tryd.prog W = .ok (.agg nullP.cells.toArray) W := by kernel_rfl
def Tm.base (m : Tm) : Bool := match m.ins with
  | [x] => decide (x.pt = nullP)
  | _ => false
theorem Tm.base_one (m : Tm) (h : m.ins.length = 1) : m.base = decide ((m.ins[0]'(by omega)).pt = nullP) := by
  obtain ⟨v, L, O, t⟩ := m
  match L, h with
  | [x], _ => rfl
theorem Tm.base_no (m : Tm) (h : m.ins.length ≠ 1) : m.base = false := by
  obtain ⟨v, L, O, t⟩ := m
  match L, h with
  | [], _ => rfl
  | [x], h => exact absurd rfl h
  | _ :: _ :: _, _ => rfl
section
set_option maxRecDepth 10000
set_option maxHeartbeats 4000000
theorem isNull_any (p : Tp) (w : World) : Calls Tryd.prog 51 #[.agg p.cells.toArray] w fun e w' => e = .returned (.bool (decide (p = nullP))) ∧ Below w.heap.size w w' := by
  have b1 := (Below.refl w.heap.size w).alloc (Nat.le_refl _) (.cells p.cells.toArray 87)
  have R1 := hide (heap_alloc_last w (.cells p.cells.toArray 87))
  have B1 := hide b1
  have PZ := hide p.size
  have EQ := hide (fun W => eqPt fp_api 9997 p nullP W)
  have BL := hide (fun W => bldP W)
  have HG : Tryd.prog.eqGuardType Tryd.prog.depth 87 = false := by kernel_rfl
  clear b1
  generalize p.cells.toArray = C at *
  generalize nullP.cells.toArray = D at *
  generalize decide (p = nullP) = V at *
  go_enter Tryd.func51, Tryd.ntmps51
  go_upto_region 1 with ((with_reducible refine at_list ?_); refine wpList_boxA rfl _ rfl C rfl ?_)
  generalize w.alloc (.cells C 87) = W1 at *
  go_wp2_with ((with_reducible refine at_list ?_); first | refine wpList_loadS APt _ rfl w.heap.size rfl C PZ.out 87 R1.out (by rfl) ?_ | refine wpList_bldX rfl _ rfl #[(1, .int .u32 4294967295)] D (by simp only [List.map_toArray, List.map_cons, List.map_nil]; rfl) BL.out ?_ | refine wpList_eql 87 _ _ _ rfl C D rfl rfl (by rfl) HG V EQ.out ?_)
  go_ret
  exact ⟨rfl, B1.out⟩
theorem base_any (m : Tm) (ai : Option Addr) (ci : Nat) (ao : Option Addr) (co : Nat) (w : World) (hl : LT w m ai ci ao co) (hf : m.fit) : Calls Tryd.prog 36 #[.agg (m.cells ai ci ao co)] w fun e w' => e = .returned (.bool m.base) ∧ Below w.heap.size w w' := by
  have b1 := (Below.refl w.heap.size w).alloc (Nat.le_refl _) (.cells (m.cells ai ci ao co) 47)
  have r1 := heap_alloc_last w (.cells (m.cells ai ci ao co) 47)
  have c1 : (w.alloc (.cells (m.cells ai ci ao co) 47)).cell? ⟨w.heap.size, 1, none⟩ = some (.slice ai m.ins.length ci) := by rw [cell_of_row _ _ _ _ _ _ r1]; rfl
  have HL := hide (hl.below b1)
  have B1 := hide b1
  clear b1 r1 hl
  generalize m.cells ai ci ao co = C at *
  by_cases h : m.ins.length = 1
  · obtain ⟨ga, oa, rfl⟩ := HL.out.i.base (by omega)
    have RP := hide (Ti.ptAt _ (HL.out.i.range 0 (by omega)))
    rw [h] at c1
    rw [m.base_one h]
    have HI : Hid (∀ W, Calls Tryd.prog 51 #[.agg (m.ins[0]'(by omega)).pt.cells.toArray] W fun e w' => e = .returned (.bool (decide ((m.ins[0]'(by omega)).pt = nullP))) ∧ Below W.heap.size W w') := fun W => isNull_any _ W
    generalize (m.ins[0]'(by omega)).pt = y at *
    rw [Nat.zero_mul, Nat.add_zero] at RP
    clear h HL hf
    go_enter Tryd.func36, Tryd.ntmps36
    go_upto_region 1 with ((with_reducible refine at_list ?_); refine wpList_boxA rfl _ rfl C rfl ?_)
    generalize w.alloc (.cells C 47) = W1 at *
    generalize hq : decide (y = nullP) = V at *
    go_wp2_with (first | (go_at_call 51; refine (HI.out _).mono ?_; rintro r W2 ⟨rfl, b2⟩; have B2 := hide (below_next B1.out b2); clear b2) | ((with_reducible refine at_list ?_); refine wpLoadP _ rfl ga oa rfl y RP.out (by rfl) ?_))
    go_ret
    exact ⟨by rw [hq]; rfl, B2.out⟩
  · rw [m.base_no h]
    have h2 : ((m.ins.length : Int) == 1) = false := by simp; omega
    go_enter Tryd.func36, Tryd.ntmps36
    go_upto_region 1 with ((with_reducible refine at_list ?_); refine wpList_boxA rfl _ rfl C rfl ?_)
    generalize w.alloc (.cells C 47) = W1 at *
    go_wp2
    go_ret
    exact ⟨rfl, B1.out⟩
theorem AH32 : Arr 23 32 (hc zeros) := ⟨.inl ⟨_, _, Tryd.underlying23⟩, by kernel_rfl, fun w => by kernel_rfl, fun w => by kernel_rfl, by rw [hc_size, zeros_len]⟩
theorem wpLoadH32 {w : World} {ops : Array Oper} {rest : List Oper} {o : Oper} {a : Act} {Q : Exit → Act → World → Prop} (x : Operand) (ho : o.op = .load 23 x) (g off : Nat) (hx : a.eval x = .pointer (some ⟨g, off, none⟩)) (y : List UInt8) (hy : y.length = 32) (hr : w.rangeAt g off (cellsL y)) (hw : Region.wanted o (yielded ops a.tmps) = true)
    (h : wpList Tryd.prog ops Q rest (a.put o.dst (.agg (hc y))) w) : wpList Tryd.prog ops Q (o :: rest) a w := by
  have ld : (Instr.loadAt 23 (.pointer (some ⟨g, off, none⟩))).run Tryd.prog w = .ok (.agg (hc y)) w :=
    run_loadAt_mid w g off 23 _ _ hr Tryd.underlying23 rfl (by rw [cellsL_len, hy]; kernel_rfl)
  refine wpList_step fun K hK => ?_
  rw [if_pos hw]
  unfold Oper.wp execOp
  simp only [ho, hx, ld, Sem.run_bind, Result.andThen_ok, Sem.run_pure]
  exact hK _ _ h
theorem wpList_buildV {t : TypeId} {n : Nat} {z : Array Value} {w : World} {ops : Array Oper} {rest : List Oper} {o : Oper} {a : Act} {Q : Exit → Act → World → Prop} (A : Arr t n z) (ho : o.op = .build t #[]) (hw : Region.wanted o (yielded ops a.tmps) = true)
    (h : wpList Tryd.prog ops Q rest (a.put o.dst (.agg z)) w) : wpList Tryd.prog ops Q (o :: rest) a w := by
  refine wpList_step fun K hK => ?_
  rw [if_pos hw]
  unfold Oper.wp execOp
  simp only [ho, List.map_toArray, List.map_nil, A.build, Sem.run_bind, Result.andThen_ok, Sem.run_pure]
  exact hK _ _ h
theorem eqH32 (x y : List UInt8) (hx : x.length = 32) (hy : y.length = 32) (W : World) : (Op.equalIn 10000 23 (.agg (hc x)) (.agg (hc y))).run Tryd.prog W = .ok (x == y) W :=
  eqC_bytes x y 32 hx hy 23 Tryd.underlying23 9998 W
theorem Ti.hashR {W : World} {g off : Nat} (x : Ti) (h : W.rangeAt g off x.cells) : W.rangeAt g off (cellsL x.hash) := fun j v hv => by
  refine h j v ?_
  rw [Ti.cells, List.getElem?_append_left (List.getElem?_eq_some_iff.1 hv).1]
  exact hv
theorem Ti.idxR {W : World} {g off : Nat} (x : Ti) (h : W.rangeAt g off x.cells) : W.cell? ⟨g, off + 32, none⟩ = some (.int .u32 (x.idx.toNat : Int)) := h 32 _ (by rw [← List.getElem?_toArray]; exact x.at32)
theorem rbase_any (m : Tm) (ai : Option Addr) (ci : Nat) (ao : Option Addr) (co : Nat) (w : World) (hl : LR w m ai ci ao co) (hf : m.fit) : Calls Tryd.prog 16 #[.agg (m.cells ai ci ao co)] w fun e w' => e = .returned (.bool m.base) ∧ Below w.heap.size w w' := by
  have b1 := (Below.refl w.heap.size w).alloc (Nat.le_refl _) (.cells (m.cells ai ci ao co) 59)
  have r1 := heap_alloc_last w (.cells (m.cells ai ci ao co) 59)
  have c1 : (w.alloc (.cells (m.cells ai ci ao co) 59)).cell? ⟨w.heap.size, 1, none⟩ = some (.slice ai m.ins.length ci) := by rw [cell_of_row _ _ _ _ _ _ r1]; rfl
  have HL := hide (hl.below b1)
  have B1 := hide b1
  have HG : Tryd.prog.eqGuardType Tryd.prog.depth 23 = false := by kernel_rfl
  clear b1 r1 hl
  generalize m.cells ai ci ao co = C at *
  by_cases h : m.ins.length = 1
  · obtain ⟨ga, oa, rfl⟩ := HL.out.i.base (by omega)
    have RG := HL.out.i.range 0 (by omega)
    rw [h] at c1
    rw [m.base_one h]
    generalize (m.ins[0]'(by omega)) = y at *
    rw [Nat.zero_mul, Nat.add_zero] at RG
    have RH := hide (y.hashR RG)
    have cx := y.idxR RG
    rw [← Tp.same]
    have EQ := hide (eqH32 y.hash zeros y.hh zeros_len)
    have YH := hide y.hh
    clear h HL hf RG
    show Calls _ _ _ _ (fun e w' => e = .returned (.bool ((y.hash == zeros) && (((y.idx.toNat : Int) == ((4294967295 : UInt32).toNat : Int)) && true))) ∧ _)
    have e9 : ((4294967295 : UInt32).toNat : Int) = 4294967295 := by decide
    rw [e9, Bool.and_true]
    clear e9
    generalize (y.idx.toNat : Int) = V at *
    generalize y.hash = H at *
    generalize hq : (H == zeros) = b at *
    clear hq
    go_enter Tryd.func16, Tryd.ntmps16
    go_upto_region 1 with ((with_reducible refine at_list ?_); refine wpList_boxA rfl _ rfl C rfl ?_)
    generalize w.alloc (.cells C 59) = W1 at *
    cases b
    · go_wp2_with ((with_reducible refine at_list ?_); first | refine wpLoadH32 _ rfl ga oa rfl H YH.out RH.out (by rfl) ?_ | refine wpList_buildV AH32 rfl (by rfl) ?_ | refine wpList_eql 23 _ _ _ rfl (hc H) (hc zeros) rfl rfl (by rfl) HG false EQ.out ?_)
      go_ret
      exact ⟨rfl, B1.out⟩
    · generalize hq : (V == 4294967295) = b2 at *
      go_wp2_with ((with_reducible refine at_list ?_); first | refine wpLoadH32 _ rfl ga oa rfl H YH.out RH.out (by rfl) ?_ | refine wpList_buildV AH32 rfl (by rfl) ?_ | refine wpList_eql 23 _ _ _ rfl (hc H) (hc zeros) rfl rfl (by rfl) HG true EQ.out ?_)
      go_ret
      exact ⟨by simp [hq], B1.out⟩
  · rw [m.base_no h]
    have h2 : ((m.ins.length : Int) == 1) = false := by simp; omega
    go_enter Tryd.func16, Tryd.ntmps16
    go_upto_region 1 with ((with_reducible refine at_list ?_); refine wpList_boxA rfl _ rfl C rfl ?_)
    generalize w.alloc (.cells C 59) = W1 at *
    go_wp2
    go_ret
    exact ⟨rfl, B1.out⟩
end
end Go.Proofs.YtdkemnjkhclbkaaDoor
