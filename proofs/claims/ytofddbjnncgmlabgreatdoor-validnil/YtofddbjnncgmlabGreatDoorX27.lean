/- tx.Paid and the document's Paid: their contracts. tx.isNull, tx.Base and the document's Base: their contracts. Points as keys of a map. -/
import Derived.Test.YtofddbjnncgmlabGreatDoorX23
import Derived.Test.YtofddbjnncgmlabGreatDoorX12
import Derived.Maps.OwnSet
import Derived.Maps.OwnOps
import Derived.DeepKeys4
namespace Go.Proofs.YtofddbjnncgmlabGreatDoor
open Go.RowKit
open Go.Deep
set_option linter.unusedVariables false
/-- What outputs pay, behind those that pay n. -/
def paidR (n : Nat) : List Tu → Nat × Int
  | [] => (n, 0)
  | x :: r => if 1000000 < x.val.toNat + n then (0, 103) else paidR (n + x.val.toNat) r
def Tm.paid (m : Tm) : Nat × Int := paidR 0 m.outs
theorem paidR_no (L : List Tu) (k A : Nat) (h : k < L.length) (hq : 1000000 < L[k].val.toNat + A) : paidR A (L.drop k) = (0, 103) := by
  rw [List.drop_eq_getElem_cons h, paidR, if_pos hq]
theorem paidR_yes (L : List Tu) (k A : Nat) (h : k < L.length) (hq : ¬ 1000000 < L[k].val.toNat + A) : paidR A (L.drop k) = paidR (A + L[k].val.toNat) (L.drop (k + 1)) := by
  rw [List.drop_eq_getElem_cons h, paidR, if_neg hq]
section
set_option maxRecDepth 10000
set_option maxHeartbeats 4000000
theorem paid_any (m : Tm) (ai : Option Addr) (ci : Nat) (ao : Option Addr) (co : Nat) (w : World) (hl : LT w m ai ci ao co) (hf : m.fit) : Calls Tryz.prog 83 #[.agg (m.cells ai ci ao co)] w fun e w' => e = .returned (.tuple #[.int .u64 (m.paid.1 : Int), .int .i64 m.paid.2]) ∧ Below w.heap.size w w' := by
  have b1 := (Below.refl w.heap.size w).alloc (Nat.le_refl _) (.cells (m.cells ai ci ao co) 90)
  have r1 := heap_alloc_last w (.cells (m.cells ai ci ao co) 90)
  have c1 : (w.alloc (.cells (m.cells ai ci ao co) 90)).cell? ⟨w.heap.size, 2, none⟩ = some (.slice ao m.outs.length co) := by rw [cell_of_row _ _ _ _ _ _ r1]; rfl
  have HF := hide hf
  have HL := hide (hl.below b1)
  have B1 := hide b1
  clear hf hl b1 r1
  generalize m.cells ai ci ao co = C at *
  unfold Tm.paid
  go_enter Tryz.func83, Tryz.ntmps83
  go_upto_region 1 with ((with_reducible refine at_list ?_); refine wpList_boxA rfl _ rfl C rfl ?_)
  generalize w.alloc (.cells C 90) = W1 at *
  go_upto_region 3 with fail
  clear c1
  go_loopw [4, 10] (fun s i wr => ∃ k A : Nat, k ≤ m.outs.length ∧ i = .int .i64 (k : Int) ∧ s = .int .u64 (A : Int) ∧ Hid ((A ≤ 1000000 ∧ paidR A (m.outs.drop k) = paidR 0 m.outs) ∧ Below W1.heap.size W1 wr)) (fun _ i _ => (m.outs.length - intOf i).toNat)
  case atStart => exact ⟨0, 0, Nat.zero_le _, rfl, rfl, ⟨by omega, rfl⟩, Below.refl _ _⟩
  case round =>
    obtain ⟨k, A, hk, rfl, rfl, J⟩ := hrel
    by_cases hlt : k < m.outs.length
    · have h1 : (k : Int) < (m.outs.length : Int) := by omega
      have h2 : (0 : Int) ≤ (k : Int) := by omega
      have h5 := HF.out.o
      have e1 : IntKind.i64.wrap ((k : Int) + 1) = k + 1 := wrapI _ (by omega) (by omega)
      have KK := hide (And.intro (show k + 1 ≤ m.outs.length by omega) (show ((m.outs.length : Int) - ((k : Int) + 1)).toNat < ((m.outs.length : Int) - (k : Int)).toNat by omega))
      obtain ⟨ga, oa, rfl⟩ := HL.out.o.base (by omega)
      have RG : Hid (wr.rangeAt ga (oa + k * 2) m.outs[k].cells) := (HL.out.below J.out.2).o.range k hlt
      have PN := hide (fun h => (paidR_no m.outs k A hlt h).symm.trans J.out.1.2)
      have PY := hide (fun h => (paidR_yes m.outs k A hlt h).symm.trans J.out.1.2)
      have JB := hide J.out.2
      have hA := J.out.1.1
      generalize m.outs[k] = x at *
      clear hk hlt h5 J
      go_upto_region 5 with ((with_reducible refine at_list ?_); first | refine wpLoadO _ rfl ga (oa + k * 2) rfl x RG.out (by rfl) ?_ | refine wpList_allocA AO rfl rfl ?_ | refine wpList_store_newA AO rfl _ _ rfl _ rfl x.cells.toArray rfl x.all rfl rfl ?_)
      have c5 : (wr.alloc (.cells x.cells.toArray 70)).cell? ⟨wr.heap.size, 0, none⟩ = some (.int .u64 (x.val.toNat : Int)) := by rw [cell_of_row _ _ _ _ _ _ (heap_alloc_last wr _)]; rfl
      have J2 : Hid (Below W1.heap.size W1 (wr.alloc (.cells x.cells.toArray 70))) := JB.out.alloc JB.out.size _
      generalize wr.alloc (.cells x.cells.toArray 70) = wr2 at *
      clear JB RG
      have hv := x.val.toNat_lt
      generalize x.val.toNat = V at *
      have e2 : IntKind.u64.wrap (1000000 - (A : Int)) = 1000000 - (A : Int) := wrapu _ (by omega) (by omega)
      by_cases hq : 1000000 < V + A
      · have hq2 : (V : Int) > 1000000 - (A : Int) := by omega
        have PN2 := hide (PN.out hq)
        clear hq PN PY hA hv
        go_wp2
        go_ret2
        exact ⟨by rw [← PN2.out]; rfl, B1.out.trans (J2.out.mono B1.out.size)⟩
      · have hq2 : ¬ (V : Int) > 1000000 - (A : Int) := by omega
        have e3 : IntKind.u64.wrap ((A : Int) + (V : Int)) = ((A + V : Nat) : Int) := by rw [wrapu _ (by omega) (by omega)]; omega
        have PY2 := hide (PY.out hq)
        have hA2 := hide (show A + V ≤ 1000000 by omega)
        clear hq PN PY hA hv
        go_wp2
        exact ⟨⟨k + 1, A + V, KK.out.1, by go_num, rfl, ⟨hA2.out, PY2.out⟩, J2.out⟩, by simpa [intOf] using KK.out.2⟩
    · have h1 : ¬ (k : Int) < (m.outs.length : Int) := by omega
      have PE := J.out.1.2
      rw [List.drop_of_length_le (by omega), paidR] at PE
      have PE2 := hide PE
      have JB := hide J.out.2
      clear J PE hk hlt
      go_wp2
      go_ret2
      exact ⟨by rw [← PE2.out]; rfl, B1.out.trans (JB.out.mono B1.out.size)⟩
theorem rpaid_any (m : Tm) (ai : Option Addr) (ci : Nat) (ao : Option Addr) (co : Nat) (w : World) (hl : LR w m ai ci ao co) (hf : m.fit) : Calls Tryz.prog 31 #[.agg (m.cells ai ci ao co)] w fun e w' => e = .returned (.tuple #[.int .u64 (m.paid.1 : Int), .int .i64 m.paid.2]) ∧ Below w.heap.size w w' := by
  have b1 := (Below.refl w.heap.size w).alloc (Nat.le_refl _) (.cells (m.cells ai ci ao co) 43)
  have r1 := heap_alloc_last w (.cells (m.cells ai ci ao co) 43)
  have c1 : (w.alloc (.cells (m.cells ai ci ao co) 43)).cell? ⟨w.heap.size, 2, none⟩ = some (.slice ao m.outs.length co) := by rw [cell_of_row _ _ _ _ _ _ r1]; rfl
  have HF := hide hf
  have HL := hide (hl.below b1)
  have B1 := hide b1
  clear hf hl b1 r1
  generalize m.cells ai ci ao co = C at *
  unfold Tm.paid
  go_enter Tryz.func31, Tryz.ntmps31
  go_upto_region 1 with ((with_reducible refine at_list ?_); refine wpList_boxA rfl _ rfl C rfl ?_)
  generalize w.alloc (.cells C 43) = W1 at *
  go_upto_region 3 with fail
  clear c1
  go_loopw [4, 10] (fun s i wr => ∃ k A : Nat, k ≤ m.outs.length ∧ i = .int .i64 (k : Int) ∧ s = .int .u64 (A : Int) ∧ Hid ((A ≤ 1000000 ∧ paidR A (m.outs.drop k) = paidR 0 m.outs) ∧ Below W1.heap.size W1 wr)) (fun _ i _ => (m.outs.length - intOf i).toNat)
  case atStart => exact ⟨0, 0, Nat.zero_le _, rfl, rfl, ⟨by omega, rfl⟩, Below.refl _ _⟩
  case round =>
    obtain ⟨k, A, hk, rfl, rfl, J⟩ := hrel
    by_cases hlt : k < m.outs.length
    · have h1 : (k : Int) < (m.outs.length : Int) := by omega
      have h2 : (0 : Int) ≤ (k : Int) := by omega
      have h5 := HF.out.o
      have e1 : IntKind.i64.wrap ((k : Int) + 1) = k + 1 := wrapI _ (by omega) (by omega)
      have KK := hide (And.intro (show k + 1 ≤ m.outs.length by omega) (show ((m.outs.length : Int) - ((k : Int) + 1)).toNat < ((m.outs.length : Int) - (k : Int)).toNat by omega))
      obtain ⟨ga, oa, rfl⟩ := HL.out.o.base (by omega)
      have RG : Hid (wr.rangeAt ga (oa + k * 2) m.outs[k].cells) := (HL.out.below J.out.2).o.range k hlt
      have PN := hide (fun h => (paidR_no m.outs k A hlt h).symm.trans J.out.1.2)
      have PY := hide (fun h => (paidR_yes m.outs k A hlt h).symm.trans J.out.1.2)
      have JB := hide J.out.2
      have hA := J.out.1.1
      generalize m.outs[k] = x at *
      clear hk hlt h5 J
      go_upto_region 5 with ((with_reducible refine at_list ?_); first | refine wpLoadOr _ rfl ga (oa + k * 2) rfl x RG.out (by rfl) ?_ | refine wpList_allocA zOr' rfl rfl ?_ | refine wpList_store_newA zOr' rfl _ _ rfl _ rfl x.cells.toArray rfl x.all rfl rfl ?_)
      have c5 : (wr.alloc (.cells x.cells.toArray 99)).cell? ⟨wr.heap.size, 0, none⟩ = some (.int .u64 (x.val.toNat : Int)) := by rw [cell_of_row _ _ _ _ _ _ (heap_alloc_last wr _)]; rfl
      have J2 : Hid (Below W1.heap.size W1 (wr.alloc (.cells x.cells.toArray 99))) := JB.out.alloc JB.out.size _
      generalize wr.alloc (.cells x.cells.toArray 99) = wr2 at *
      clear JB RG
      have hv := x.val.toNat_lt
      generalize x.val.toNat = V at *
      by_cases hq0 : 1000000 < V
      · have hq2 : decide ((V : Int) > 1000000) = true := decide_eq_true (by omega)
        have PN2 := hide (PN.out (by omega))
        clear hq0 PN PY hA hv
        go_wp2
        go_ret2
        exact ⟨by rw [← PN2.out]; rfl, B1.out.trans (J2.out.mono B1.out.size)⟩
      · have hq1 : decide ((V : Int) > 1000000) = false := decide_eq_false (by omega)
        have e3 : IntKind.u64.wrap ((A : Int) + (V : Int)) = ((A + V : Nat) : Int) := by rw [wrapu _ (by omega) (by omega)]; omega
        by_cases hq : 1000000 < V + A
        · have hq2 : decide (((A + V : Nat) : Int) > 1000000) = true := decide_eq_true (by omega)
          have PN2 := hide (PN.out hq)
          clear hq hq0 PN PY hA hv
          generalize A + V = S at *
          go_wp2
          go_ret2
          exact ⟨by rw [← PN2.out]; rfl, B1.out.trans (J2.out.mono B1.out.size)⟩
        · have hq2 : decide (((A + V : Nat) : Int) > 1000000) = false := decide_eq_false (by omega)
          have PY2 := hide (PY.out hq)
          have hA2 := hide (show A + V ≤ 1000000 by omega)
          clear hq hq0 PN PY hA hv
          generalize A + V = S at *
          go_wp2
          exact ⟨⟨k + 1, S, KK.out.1, by go_num, rfl, ⟨hA2.out, PY2.out⟩, J2.out⟩, by simpa [intOf] using KK.out.2⟩
    · have h1 : ¬ (k : Int) < (m.outs.length : Int) := by omega
      have PE := J.out.1.2
      rw [List.drop_of_length_le (by omega), paidR] at PE
      have PE2 := hide PE
      have JB := hide J.out.2
      clear J PE hk hlt
      go_wp2
      go_ret2
      exact ⟨by rw [← PE2.out]; rfl, B1.out.trans (JB.out.mono B1.out.size)⟩
end
end Go.Proofs.YtofddbjnncgmlabGreatDoor
namespace Go.Proofs.YtofddbjnncgmlabGreatDoor
open Go.RowKit
open Go.Deep
set_option linter.unusedVariables false
/-- The point of a coinbase's input. -/
def nullP : Tp := ⟨zeros, 4294967295, zeros_len⟩
theorem bldP (W : World) : (Instr.build 76 #[(1, .int .u32 4294967295)]).run Tryz.prog W = .ok (.agg nullP.cells.toArray) W := by kernel_rfl
def Tm.base (m : Tm) : Bool := match m.ins with
  | [x] => decide (x.pt = nullP)
  | _ => false
theorem Tm.base_one (m : Tm) (h : m.ins.length = 1) : m.base = decide ((m.ins[0]'(by omega)).pt = nullP) := by
  obtain ⟨v, L, O, t⟩ := m
  match L, h with
  | [x], _ => rfl
theorem Tm.base_no (m : Tm) (h : m.ins.length ≠ 1) : m.base = false := by
  obtain ⟨v, L, O, t⟩ := m
  match L, h with
  | [], _ => rfl
  | [x], h => exact absurd rfl h
  | _ :: _ :: _, _ => rfl
section
set_option maxRecDepth 10000
set_option maxHeartbeats 4000000
theorem isNull_any (p : Tp) (w : World) : Calls Tryz.prog 111 #[.agg p.cells.toArray] w fun e w' => e = .returned (.bool (decide (p = nullP))) ∧ Below w.heap.size w w' := by
  have b1 := (Below.refl w.heap.size w).alloc (Nat.le_refl _) (.cells p.cells.toArray 76)
  have R1 := hide (heap_alloc_last w (.cells p.cells.toArray 76))
  have B1 := hide b1
  have PZ := hide p.size
  have EQ := hide (fun W => eqPt fp_api 9997 p nullP W)
  have BL := hide (fun W => bldP W)
  have HG : Tryz.prog.eqGuardType Tryz.prog.depth 76 = false := by kernel_rfl
  clear b1
  generalize p.cells.toArray = C at *
  generalize nullP.cells.toArray = D at *
  generalize decide (p = nullP) = V at *
  go_enter Tryz.func111, Tryz.ntmps111
  go_upto_region 1 with ((with_reducible refine at_list ?_); refine wpList_boxA rfl _ rfl C rfl ?_)
  generalize w.alloc (.cells C 76) = W1 at *
  go_wp2_with ((with_reducible refine at_list ?_); first | refine wpList_loadS APt _ rfl w.heap.size rfl C PZ.out 76 R1.out (by rfl) ?_ | refine wpList_bldX rfl _ rfl #[(1, .int .u32 4294967295)] D (by simp only [List.map_toArray, List.map_cons, List.map_nil]; rfl) BL.out ?_ | refine wpList_eql 76 _ _ _ rfl C D rfl rfl (by rfl) HG V EQ.out ?_)
  go_ret
  exact ⟨rfl, B1.out⟩
theorem base_any (m : Tm) (ai : Option Addr) (ci : Nat) (ao : Option Addr) (co : Nat) (w : World) (hl : LT w m ai ci ao co) (hf : m.fit) : Calls Tryz.prog 71 #[.agg (m.cells ai ci ao co)] w fun e w' => e = .returned (.bool m.base) ∧ Below w.heap.size w w' := by
  have b1 := (Below.refl w.heap.size w).alloc (Nat.le_refl _) (.cells (m.cells ai ci ao co) 90)
  have r1 := heap_alloc_last w (.cells (m.cells ai ci ao co) 90)
  have c1 : (w.alloc (.cells (m.cells ai ci ao co) 90)).cell? ⟨w.heap.size, 1, none⟩ = some (.slice ai m.ins.length ci) := by rw [cell_of_row _ _ _ _ _ _ r1]; rfl
  have HL := hide (hl.below b1)
  have B1 := hide b1
  clear b1 r1 hl
  generalize m.cells ai ci ao co = C at *
  by_cases h : m.ins.length = 1
  · obtain ⟨ga, oa, rfl⟩ := HL.out.i.base (by omega)
    have RP := hide (Ti.ptAt _ (HL.out.i.range 0 (by omega)))
    rw [h] at c1
    rw [m.base_one h]
    have HI : Hid (∀ W, Calls Tryz.prog 111 #[.agg (m.ins[0]'(by omega)).pt.cells.toArray] W fun e w' => e = .returned (.bool (decide ((m.ins[0]'(by omega)).pt = nullP))) ∧ Below W.heap.size W w') := fun W => isNull_any _ W
    generalize (m.ins[0]'(by omega)).pt = y at *
    rw [Nat.zero_mul, Nat.add_zero] at RP
    clear h HL hf
    go_enter Tryz.func71, Tryz.ntmps71
    go_upto_region 1 with ((with_reducible refine at_list ?_); refine wpList_boxA rfl _ rfl C rfl ?_)
    generalize w.alloc (.cells C 90) = W1 at *
    generalize hq : decide (y = nullP) = V at *
    go_wp2_with (first | (go_at_call 111; refine (HI.out _).mono ?_; rintro r W2 ⟨rfl, b2⟩; have B2 := hide (below_next B1.out b2); clear b2) | ((with_reducible refine at_list ?_); refine wpLoadP _ rfl ga oa rfl y RP.out (by rfl) ?_))
    go_ret
    exact ⟨by rw [hq]; rfl, B2.out⟩
  · rw [m.base_no h]
    have h2 : ((m.ins.length : Int) == 1) = false := by simp; omega
    go_enter Tryz.func71, Tryz.ntmps71
    go_upto_region 1 with ((with_reducible refine at_list ?_); refine wpList_boxA rfl _ rfl C rfl ?_)
    generalize w.alloc (.cells C 90) = W1 at *
    go_wp2
    go_ret
    exact ⟨rfl, B1.out⟩
theorem AH32 : Arr 24 32 (hc zeros) := ⟨.inl ⟨_, _, Tryz.underlying24⟩, by kernel_rfl, fun w => by kernel_rfl, fun w => by kernel_rfl, by rw [hc_size, zeros_len]⟩
theorem wpLoadH32 {w : World} {ops : Array Oper} {rest : List Oper} {o : Oper} {a : Act} {Q : Exit → Act → World → Prop} (x : Operand) (ho : o.op = .load 24 x) (g off : Nat) (hx : a.eval x = .pointer (some ⟨g, off, none⟩)) (y : List UInt8) (hy : y.length = 32) (hr : w.rangeAt g off (cellsL y)) (hw : Region.wanted o (yielded ops a.tmps) = true)
    (h : wpList Tryz.prog ops Q rest (a.put o.dst (.agg (hc y))) w) : wpList Tryz.prog ops Q (o :: rest) a w := by
  have ld : (Instr.loadAt 24 (.pointer (some ⟨g, off, none⟩))).run Tryz.prog w = .ok (.agg (hc y)) w :=
    run_loadAt_mid w g off 24 _ _ hr Tryz.underlying24 rfl (by rw [cellsL_len, hy]; kernel_rfl)
  refine wpList_step fun K hK => ?_
  rw [if_pos hw]
  unfold Oper.wp execOp
  simp only [ho, hx, ld, Sem.run_bind, Result.andThen_ok, Sem.run_pure]
  exact hK _ _ h
theorem wpList_buildV {t : TypeId} {n : Nat} {z : Array Value} {w : World} {ops : Array Oper} {rest : List Oper} {o : Oper} {a : Act} {Q : Exit → Act → World → Prop} (A : Arr t n z) (ho : o.op = .build t #[]) (hw : Region.wanted o (yielded ops a.tmps) = true)
    (h : wpList Tryz.prog ops Q rest (a.put o.dst (.agg z)) w) : wpList Tryz.prog ops Q (o :: rest) a w := by
  refine wpList_step fun K hK => ?_
  rw [if_pos hw]
  unfold Oper.wp execOp
  simp only [ho, List.map_toArray, List.map_nil, A.build, Sem.run_bind, Result.andThen_ok, Sem.run_pure]
  exact hK _ _ h
theorem eqH32 (x y : List UInt8) (hx : x.length = 32) (hy : y.length = 32) (W : World) : (Op.equalIn 10000 24 (.agg (hc x)) (.agg (hc y))).run Tryz.prog W = .ok (x == y) W :=
  eqC_bytes x y 32 hx hy 24 Tryz.underlying24 9998 W
theorem Ti.hashR {W : World} {g off : Nat} (x : Ti) (h : W.rangeAt g off x.cells) : W.rangeAt g off (cellsL x.hash) := fun j v hv => by
  refine h j v ?_
  rw [Ti.cells, List.getElem?_append_left (List.getElem?_eq_some_iff.1 hv).1]
  exact hv
theorem Ti.idxR {W : World} {g off : Nat} (x : Ti) (h : W.rangeAt g off x.cells) : W.cell? ⟨g, off + 32, none⟩ = some (.int .u32 (x.idx.toNat : Int)) := h 32 _ (by rw [← List.getElem?_toArray]; exact x.at32)
theorem rbase_any (m : Tm) (ai : Option Addr) (ci : Nat) (ao : Option Addr) (co : Nat) (w : World) (hl : LR w m ai ci ao co) (hf : m.fit) : Calls Tryz.prog 32 #[.agg (m.cells ai ci ao co)] w fun e w' => e = .returned (.bool m.base) ∧ Below w.heap.size w w' := by
  have b1 := (Below.refl w.heap.size w).alloc (Nat.le_refl _) (.cells (m.cells ai ci ao co) 43)
  have r1 := heap_alloc_last w (.cells (m.cells ai ci ao co) 43)
  have c1 : (w.alloc (.cells (m.cells ai ci ao co) 43)).cell? ⟨w.heap.size, 1, none⟩ = some (.slice ai m.ins.length ci) := by rw [cell_of_row _ _ _ _ _ _ r1]; rfl
  have HL := hide (hl.below b1)
  have B1 := hide b1
  have HG : Tryz.prog.eqGuardType Tryz.prog.depth 24 = false := by kernel_rfl
  clear b1 r1 hl
  generalize m.cells ai ci ao co = C at *
  by_cases h : m.ins.length = 1
  · obtain ⟨ga, oa, rfl⟩ := HL.out.i.base (by omega)
    have RG := HL.out.i.range 0 (by omega)
    rw [h] at c1
    rw [m.base_one h]
    generalize (m.ins[0]'(by omega)) = y at *
    rw [Nat.zero_mul, Nat.add_zero] at RG
    have RH := hide (y.hashR RG)
    have cx := y.idxR RG
    rw [← Tp.same]
    have EQ := hide (eqH32 y.hash zeros y.hh zeros_len)
    have YH := hide y.hh
    clear h HL hf RG
    show Calls _ _ _ _ (fun e w' => e = .returned (.bool ((y.hash == zeros) && (((y.idx.toNat : Int) == ((4294967295 : UInt32).toNat : Int)) && true))) ∧ _)
    have e9 : ((4294967295 : UInt32).toNat : Int) = 4294967295 := by decide
    rw [e9, Bool.and_true]
    clear e9
    generalize (y.idx.toNat : Int) = V at *
    generalize y.hash = H at *
    generalize hq : (H == zeros) = b at *
    clear hq
    go_enter Tryz.func32, Tryz.ntmps32
    go_upto_region 1 with ((with_reducible refine at_list ?_); refine wpList_boxA rfl _ rfl C rfl ?_)
    generalize w.alloc (.cells C 43) = W1 at *
    cases b
    · go_wp2_with ((with_reducible refine at_list ?_); first | refine wpLoadH32 _ rfl ga oa rfl H YH.out RH.out (by rfl) ?_ | refine wpList_buildV AH32 rfl (by rfl) ?_ | refine wpList_eql 24 _ _ _ rfl (hc H) (hc zeros) rfl rfl (by rfl) HG false EQ.out ?_)
      go_ret
      exact ⟨rfl, B1.out⟩
    · generalize hq : (V == 4294967295) = b2 at *
      go_wp2_with ((with_reducible refine at_list ?_); first | refine wpLoadH32 _ rfl ga oa rfl H YH.out RH.out (by rfl) ?_ | refine wpList_buildV AH32 rfl (by rfl) ?_ | refine wpList_eql 24 _ _ _ rfl (hc H) (hc zeros) rfl rfl (by rfl) HG true EQ.out ?_)
      go_ret
      exact ⟨by simp [hq], B1.out⟩
  · rw [m.base_no h]
    have h2 : ((m.ins.length : Int) == 1) = false := by simp; omega
    go_enter Tryz.func32, Tryz.ntmps32
    go_upto_region 1 with ((with_reducible refine at_list ?_); refine wpList_boxA rfl _ rfl C rfl ?_)
    generalize w.alloc (.cells C 43) = W1 at *
    go_wp2
    go_ret
    exact ⟨rfl, B1.out⟩
end
end Go.Proofs.YtofddbjnncgmlabGreatDoor
namespace Go.Proofs.YtofddbjnncgmlabGreatDoor
open Go.RowKit
open Go.Deep
open Go.Maps
theorem laidOutP : laidOutB Tryz.prog = true := by kernel_rfl
theorem cellsP8 : Tryz.prog.cellsOf 5 = 1 := by kernel_rfl
theorem cellsP32 : Tryz.prog.cellsOf 23 = 1 := by kernel_rfl
theorem cellsPH : Tryz.prog.cellsOf 25 = 32 := by kernel_rfl
theorem cellsPP : Tryz.prog.cellsOf 76 = 33 := by kernel_rfl
theorem keyTP : Tryz.prog.keyType 76 = true := by kernel_rfl
theorem lawP : Keyed Tryz.prog 76 := Keyed.of_law (deep_law_laid laidOutP (m := 3) (by omega) (of_decide_eq_true (by kernel_rfl)) (by kernel_rfl) (by kernel_rfl))
theorem zeroSP (w : World) : (zeroValue 186).run Tryz.prog w = .ok (.agg #[]) w := by kernel_rfl
theorem mapM_someP {α β : Type} (f : α → Option β) (g : α → β) (r : List α) (h : ∀ i ∈ r, f i = some (g i)) : r.mapM f = some (r.map g) := by
  induction r with
  | nil => rfl
  | cons a r ih =>
    rw [List.mapM_cons, h a (by simp), ih (fun i hi => h i (by simp [hi]))]
    rfl
theorem lits_atP (d : Nat) (l : List UInt8) (i : Nat) (hi : i < l.length) : Tryz.prog.keyLits (d + 1) 5 (((cellsL l).drop (i * 1)).take 1) = some [.int .u8 ((l.getD i 0).toNat : Int)] := by
  have hc : (cellsL l).length = l.length := cellsL_len l
  have hb := (l.getD i 0).toNat_lt
  have e : ((cellsL l).drop (i * 1)).take 1 = [.int .u8 ((l.getD i 0).toNat : Int)] := by
    rw [Nat.mul_one, List.drop_eq_getElem_cons (by omega)]
    simp [cellsL, hi]
  rw [e]
  generalize l.getD i 0 = b at *
  unfold Program.keyLits
  simp only [Tryz.underlying5]
  rw [if_pos]
  exact ⟨trivial, by simp [Lit.wf, IntKind.min, IntKind.max, IntKind.signed, IntKind.bits]; omega⟩
theorem range_getDP (l : List UInt8) : (List.range l.length).map (fun i => l.getD i 0) = l := by
  apply List.ext_getElem
  · simp
  · intro i h1 h2
    simp [h2]
theorem bytes_oneP (b : UInt8) : Lit.keyBytes (.int .u8 (b.toNat : Int)) = [b] := by
  have := b.toNat_lt
  have e : ((b.toNat : Int) % 2 ^ IntKind.u8.bits).toNat = b.toNat := by
    simp only [IntKind.bits]
    omega
  simp only [Lit.keyBytes]
  rw [e]
  simp only [IntKind.bits, bytesBE, bytesLE]
  simp
theorem litsHP (d : Nat) (l : List UInt8) (hl : l.length = 32) : Tryz.prog.keyLits (d + 2) 25 (cellsL l) = some (l.map fun b => Lit.int .u8 (b.toNat : Int)) := by
  unfold Program.keyLits
  simp only [Tryz.underlying25]
  rw [if_pos (by rw [cellsL_len, hl, cellsPH]), cellsP8, mapM_someP _ (fun i => [Lit.int .u8 ((l.getD i 0).toNat : Int)]) _ (fun i hi => lits_atP d l i (by rw [hl]; simpa using hi))]
  simp only [Option.map_some]
  congr 1
  rw [← hl]
  conv => rhs; rw [← range_getDP l]
  generalize List.range l.length = r
  induction r with
  | nil => rfl
  | cons a r ih =>
    simp only [List.map_cons, List.flatten_cons]
    rw [ih]
    rfl
theorem lits32P (d : Nat) (n : UInt32) : Tryz.prog.keyLits (d + 1) 23 [.int .u32 (n.toNat : Int)] = some [.int .u32 (n.toNat : Int)] := by
  have := n.toNat_lt
  unfold Program.keyLits
  simp only [Tryz.underlying23]
  rw [if_pos]
  exact ⟨trivial, by simp [Lit.wf, IntKind.min, IntKind.max, IntKind.signed, IntKind.bits]; omega⟩
/-- A point's key. -/
def Tp.keyB (p : Tp) : List UInt8 := p.hash ++ Lit.keyBytes (.int .u32 (p.idx.toNat : Int))
theorem keyHB (l : List UInt8) : (l.map fun b => Lit.int .u8 (b.toNat : Int)).flatMap Lit.keyBytes = l := by
  induction l with
  | nil => rfl
  | cons b r ih => rw [List.map_cons, List.flatMap_cons, bytes_oneP, ih]; rfl
theorem litsPP (d : Nat) (p : Tp) : Tryz.prog.keyLits (d + 3) 76 p.cells = some ((p.hash.map fun b => Lit.int .u8 (b.toNat : Int)) ++ [.int .u32 (p.idx.toNat : Int)]) := by
  have hh : (cellsL p.hash).length = 32 := by rw [cellsL_len, p.hh]
  have e0 : (p.cells.drop 0).take 32 = cellsL p.hash := by rw [Tp.cells, List.drop_zero, List.take_append_of_le_length (by omega), List.take_of_length_le (by omega)]
  have e1 : (p.cells.drop 32).take 1 = [.int .u32 (p.idx.toNat : Int)] := by rw [Tp.cells, List.drop_append_of_le_length (by omega), List.drop_of_length_le (by omega)]; rfl
  unfold Program.keyLits
  simp only [Tryz.underlying76]
  rw [if_pos (by rw [p.len, cellsPP]; exact ⟨rfl, by simp⟩)]
  simp only [List.mapM_cons, List.mapM_nil, cellsPH, cellsP32, e0, e1, litsHP d p.hash p.hh, lits32P (d + 1) p.idx]
  rfl
theorem keyP (p : Tp) : keyOf Tryz.prog 76 (.agg p.cells.toArray) = some (.string p.keyB) := by
  obtain ⟨d, hd⟩ : ∃ d, Tryz.prog.types.size = d + 2 := ⟨Tryz.prog.types.size - 2, by have : 1 < Tryz.prog.types.size := of_decide_eq_true (by kernel_rfl); omega⟩
  unfold keyOf
  simp only [Tryz.underlying76]
  rw [if_pos (by simp [keyTP, Value.formed, Tryz.underlying76, cellsPP, p.len]), hd]
  simp only [Value.cells]
  rw [litsPP d p]
  simp only [Option.map_some, keyBytes, List.flatMap_append, keyHB, Tp.keyB, List.flatMap_cons, List.flatMap_nil, List.append_nil]
theorem be_inj (a b : UInt32) (h : Lit.keyBytes (.int .u32 (a.toNat : Int)) = Lit.keyBytes (.int .u32 (b.toNat : Int))) : a = b := by
  have ha := a.toNat_lt
  have hb := b.toNat_lt
  have ea : ((a.toNat : Int) % 2 ^ IntKind.u32.bits).toNat = a.toNat := by
    simp only [IntKind.bits]
    omega
  have eb : ((b.toNat : Int) % 2 ^ IntKind.u32.bits).toNat = b.toNat := by
    simp only [IntKind.bits]
    omega
  apply UInt32.toNat_inj.1
  simp only [Lit.keyBytes] at h
  rw [ea, eb] at h
  clear ea eb
  generalize a.toNat = x at *
  generalize b.toNat = y at *
  simp only [IntKind.bits, bytesBE, bytesLE] at h
  simp at h
  obtain ⟨h3, h2, h1, h0⟩ := h
  have g3 := congrArg UInt8.toNat h3
  have g2 := congrArg UInt8.toNat h2
  have g1 := congrArg UInt8.toNat h1
  have g0 := congrArg UInt8.toNat h0
  simp only [UInt8.toNat_ofNat'] at g3 g2 g1 g0
  omega
theorem Tp.keyB_inj (p q : Tp) (h : p.keyB = q.keyB) : p = q := by
  obtain ⟨a, b, ha⟩ := p
  obtain ⟨c, d, hc⟩ := q
  simp only [Tp.keyB] at h
  obtain ⟨h1, h2⟩ := List.append_inj h (by rw [ha, hc])
  have h3 := be_inj _ _ h2
  subst h1 h3
  rfl
end Go.Proofs.YtofddbjnncgmlabGreatDoor
