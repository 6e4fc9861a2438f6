/- An index in memory; Get: its contract. -/
import Derived.Test.YtpffaaalncdjcaaGreatDoorN24
import Derived.Test.YtpffaaalncdjcaaGreatDoorN25
import Derived.Test.YtpffaaalncdjcaaGreatDoorN33
import Derived.Test.YtpffaaalncdjcaaGreatDoorN36
import Derived.Maps.OwnSet
import Derived.Maps.OwnOps
namespace Go.Proofs.YtpffaaalncdjcaaGreatDoor
open Go.RowKit
open Go.Deep
open Go.Maps
set_option linter.unusedVariables false
theorem En.one (x : En) : ∀ v ∈ x.cells, v.oneCell' = true := by
  intro v hv
  have := x.all
  rw [Array.all_eq_true_iff_forall_mem] at this
  exact this v (by simpa using hv)
def KE : Ek En := ⟨77, 28, 73, 120, En.cells, by decide, by decide, Tryz.underlying77, by kernel_rfl, En.len, En.one⟩
theorem keyTH13 : Tryz.prog.keyType 24 = true := by kernel_rfl
theorem lawH13 : Keyed Tryz.prog 24 := Keyed.of_law (deep_law_laid laidOutP (m := 2) (by omega) (of_decide_eq_true (by kernel_rfl)) (by kernel_rfl) (by kernel_rfl))
theorem zeroI13 (w : World) : (zeroValue 3).run Tryz.prog w = .ok (.int .i64 0) w := by kernel_rfl
theorem keyH13 (l : List UInt8) (hl : l.length = 32) : keyOf Tryz.prog 24 (.agg (hc l)) = some (.string l) := by
  obtain ⟨d, hd⟩ : ∃ d, Tryz.prog.types.size = d + 1 := ⟨Tryz.prog.types.size - 1, by have : 0 < Tryz.prog.types.size := of_decide_eq_true (by kernel_rfl); omega⟩
  unfold keyOf
  simp only [Tryz.underlying24]
  rw [if_pos (by simp [keyTH13, Value.formed, Tryz.underlying24, cellsPH, hc_size, hl]), hd]
  have hcl : (hc l).toList = cellsL l := by simp [hc]
  simp only [Value.cells]
  rw [hcl, litsHP d l hl]
  simp only [Option.map_some]
  congr 2
  rw [keyBytes, keyHB]
theorem look13 {W : World} {b n : Nat} {D : DataW Unit} (h : W.ownsMap Tryz.prog 24 (plainElem Tryz.prog 3) b n D) (l : List UInt8) (hl : l.length = 32) (c : Int) (hat : D.atKey (.string l) (.lit (.int .i64 0)) = .lit (.int .i64 c)) : (Instr.lookup 105 (.map (some b)) (.agg (hc l)) true).run Tryz.prog W = .ok (.tuple #[.int .i64 c, .bool (Maps.has D (.string l))]) W := by
  obtain ⟨v, ps, hrun, hv⟩ := h.look_ok lawH13 Tryz.underlying105 (zeroI13 W) (zd := .lit (.int .i64 0)) (zp := []) (plainElem_int Tryz.underlying3 (by decide)) (keyH13 l hl)
  obtain ⟨c', rfl, hc', hwc⟩ := plainElem_int_inv Tryz.underlying3 hv
  have e := congrArg Prod.fst hc'
  simp only at e
  rw [hat] at e
  have : c = c' := by simpa using e
  rw [this]
  exact hrun
theorem ownsMap_of_block {W W' : World} {b n : Nat} {D : DataW Unit} (h : W.ownsMap Tryz.prog 24 (plainElem Tryz.prog 3) b n D) (e : W'.heap[b]? = W.heap[b]?) : W'.ownsMap Tryz.prog 24 (plainElem Tryz.prog 3) b n D := by
  obtain ⟨es, clock, hb, F, hs, rfl⟩ := h
  exact ⟨es, clock, e.trans hb, F, hs, rfl⟩
theorem ownsMap_lt {W : World} {b n : Nat} {D : DataW Unit} (h : W.ownsMap Tryz.prog 24 (plainElem Tryz.prog 3) b n D) : b < W.heap.size := by
  obtain ⟨es, clock, hb, F, hs, rfl⟩ := h
  exact lt_heap hb
def ixA (gj gm : Nat) (ve : Value) (lo : Int) : Array Value := #[.pointer (some ⟨gj, 0, none⟩), .map (some gm), ve, .int .i64 lo]
/-- An index in memory, but for its journal. -/
structure Xm (B W : World) (gx gm gj n : Nat) (D : DataW Unit) (ve : Value) (L : List En) (lo : Int) : Prop where
  row : W.heap[gx]? = some (.cells (ixA gj gm ve lo) 107 (0, 0))
  map : W.ownsMap Tryz.prog 24 (plainElem Tryz.prog 3) gm n D
  own : OX KE W ve L
  bel : Below B.heap.size B W
  bx : B.heap.size ≤ gx
  bm : B.heap.size ≤ gm
  ne : gx ≠ gm
  be : ∀ g, ve.ownBlock = some g → B.heap.size ≤ g ∧ g ≠ gx ∧ g ≠ gm
section
variable {B W W' : World} {gx gm gj n : Nat} {D : DataW Unit} {ve : Value} {L : List En} {lo : Int}
theorem Xm.fr {S : Nat → Prop} (h : Xm B W gx gm gj n D ve L lo) (f : Fr S W W') (hS : ∀ g, S g → B.heap.size ≤ g ∧ g ≠ gx ∧ g ≠ gm ∧ ve.ownBlock ≠ some g) : Xm B W' gx gm gj n D ve L lo := by
  have hs := h.bel.size
  have hf := f.size
  refine ⟨(f.block _ (lt_heap h.row) fun c => (hS _ c).2.1 rfl).trans h.row, ownsMap_of_block h.map (f.block _ (ownsMap_lt h.map) fun c => (hS _ c).2.2.1 rfl), h.own.of_block fun g hg => f.block _ (h.own.lt g hg) fun c => (hS _ c).2.2.2 hg, ⟨f.os.trans h.bel.os, f.tape.trans h.bel.tape, f.output.trans h.bel.output, by omega, fun k hk => (f.block k (by omega) fun c => ?_).trans (h.bel.block k hk)⟩, h.bx, h.bm, h.ne, h.be⟩
  have := (hS _ c).1
  omega
theorem Xm.next (h : Xm B W gx gm gj n D ve L lo) (b : Below W.heap.size W W') : Xm B W' gx gm gj n D ve L lo :=
  h.fr (S := fun _ => False) ⟨b.os, b.tape, b.output, b.size, fun k hk _ => b.block k hk⟩ (fun g c => c.elim)
theorem Xm.cells (h : Xm B W gx gm gj n D ve L lo) : W.cell? ⟨gx, 0, none⟩ = some (.pointer (some ⟨gj, 0, none⟩)) ∧ W.cell? ⟨gx, 1, none⟩ = some (.map (some gm)) ∧ W.cell? ⟨gx, 2, none⟩ = some ve ∧ W.cell? ⟨gx, 3, none⟩ = some (.int .i64 lo) := by
  refine ⟨?_, ?_, ?_, ?_⟩ <;> rw [cell_of_row _ _ _ _ _ _ h.row] <;> rfl
end
theorem wpLoadEn {w : World} {ops : Array Oper} {rest : List Oper} {o : Oper} {a : Act} {Q : Exit → Act → World → Prop} (x : Operand) (ho : o.op = .load 28 x) (g off : Nat) (hx : a.eval x = .pointer (some ⟨g, off, none⟩)) (y : En) (hr : w.rangeAt g off y.cells) (hw : Region.wanted o (yielded ops a.tmps) = true)
    (h : wpList Tryz.prog ops Q rest (a.put o.dst (.agg y.cells.toArray)) w) : wpList Tryz.prog ops Q (o :: rest) a w := by
  have ld : (Instr.loadAt 28 (.pointer (some ⟨g, off, none⟩))).run Tryz.prog w = .ok (.agg y.cells.toArray) w :=
    run_loadAt_mid w g off 28 _ _ hr Tryz.underlying28 rfl (by rw [y.len]; kernel_rfl)
  refine wpList_step fun K hK => ?_
  rw [if_pos hw]
  unfold Oper.wp execOp
  simp only [ho, hx, ld, Sem.run_bind, Result.andThen_ok, Sem.run_pure]
  exact hK _ _ h
section
variable {S : World → Prop} {ops : Array Oper} {o : Oper} {a : Act}
theorem yl_look (hw : Region.wanted o (yielded ops a.tmps) = true) (t : TypeId) (m x : Operand) (ho : o.op = .lookup t m x true) (vm vx : Value) (hm : a.eval m = vm) (hx : a.eval x = vx) (r : Value) (hr : ∀ W, S W → (Instr.lookup t vm vx true).run Tryz.prog W = .ok r W) : YieldsIf Tryz.prog ops S o r a :=
  .inl ⟨hw, fun W hW => by
    unfold execOp
    simp only [ho, hm, hx, hr W hW, Sem.run_bind, Result.andThen_ok, Sem.run_pure]⟩
end
section
set_option maxRecDepth 10000
set_option maxHeartbeats 4000000
theorem getI_nil (l : List UInt8) (hl : l.length = 32) (w : World) : Calls Tryz.prog 27 #[.pointer none, .agg (hc l)] w fun e w' => e = .returned (.tuple #[.agg zEn.cells.toArray, .bool false]) ∧ Below w.heap.size w w' := by
  have s1 : (w.alloc (.cells (hc l) 24)).heap.size = w.heap.size + 1 := by simp
  have R4 := hide (heap_alloc_last (w.alloc (.cells (hc l) 24)) (.cells zEn.cells.toArray 28))
  have B1 := hide (((Below.refl w.heap.size w).alloc (Nat.le_refl _) (.cells (hc l) 24)).alloc (by rw [s1]; omega) (.cells zEn.cells.toArray 28))
  rw [s1] at R4
  generalize hc l = C at *
  go_enter Tryz.func27, Tryz.ntmps27
  go_upto_region 1 with ((with_reducible refine at_list ?_); first | refine wpList_boxA rfl _ rfl C rfl ?_ | refine wpList_allocA AEn rfl rfl ?_)
  try rw [s1]
  clear s1
  generalize (w.alloc (.cells C 24)).alloc (.cells zEn.cells.toArray 28) = W0 at *
  go_wp2_with ((with_reducible refine at_list ?_); first | refine wpList_buildA AEn rfl rfl ?_ | refine wpList_storeA AEn rfl _ _ rfl (w.heap.size + 1) zEn.cells.toArray zEn.size zEn.all rfl rfl zEn.cells.toArray zEn.size 28 R4.out ?_)
  exact bodyPost_ret (v := .tuple #[.agg zEn.cells.toArray, .bool false]) (resA2K AEn Tryz.results27 _ _ (w.heap.size + 1) 28 _ zEn.size rfl (setRow_heap _ _ _ _ _ _ R4.out) _ rfl) rfl ⟨rfl, below_setRow B1.out (by omega) _⟩
theorem getI_no {B w : World} {gx gm gj n : Nat} {D : DataW Unit} {ve : Value} {L : List En} {lo : Int} (h : Xm B w gx gm gj n D ve L lo) (l : List UInt8) (hl : l.length = 32) (c : Int) (hat : D.atKey (.string l) (.lit (.int .i64 0)) = .lit (.int .i64 c)) (hh : Maps.has D (.string l) = false) : Calls Tryz.prog 27 #[.pointer (some ⟨gx, 0, none⟩), .agg (hc l)] w fun e w' => e = .returned (.tuple #[.agg zEn.cells.toArray, .bool false]) ∧ Below w.heap.size w w' := by
  have s1 : (w.alloc (.cells (hc l) 24)).heap.size = w.heap.size + 1 := by simp
  have R3 := hide ((Below.heap_alloc _ (.cells zEn.cells.toArray 28) _ (lt_heap (heap_alloc_last w (.cells (hc l) 24)))).trans (heap_alloc_last w (.cells (hc l) 24)))
  have R4 := hide (heap_alloc_last (w.alloc (.cells (hc l) 24)) (.cells zEn.cells.toArray 28))
  have b1 := ((Below.refl w.heap.size w).alloc (Nat.le_refl _) (.cells (hc l) 24)).alloc (by rw [s1]; omega) (.cells zEn.cells.toArray 28)
  have B1 := hide b1
  have X1 := hide (h.next b1)
  have LK : Hid (∀ W, Xm B W gx gm gj n D ve L lo → (Instr.lookup 105 (.map (some gm)) (.agg (hc l)) true).run Tryz.prog W = .ok (.tuple #[.int .i64 c, .bool false]) W) := fun W x => by
    have := look13 x.map l hl c hat
    rw [hh] at this
    exact this
  have CZ : Hid ((hc l).size = 32) := by show _ = _; rw [hc_size, hl]
  rw [s1] at R4
  clear b1 hat hh h
  generalize hc l = C at *
  go_enter Tryz.func27, Tryz.ntmps27
  go_upto_region 1 with ((with_reducible refine at_list ?_); first | refine wpList_boxA rfl _ rfl C rfl ?_ | refine wpList_allocA AEn rfl rfl ?_)
  try rw [s1]
  clear s1
  generalize (w.alloc (.cells C 24)).alloc (.cells zEn.cells.toArray 28) = W0 at *
  go_upto_region 3 with fail
  have DV1 := hide ((Below.refl W0.heap.size W0).drew)
  refine wp_region_held_drew (S := fun W => Below W0.heap.size W0 W) (by kernel_rfl) DV1.out (fun hH => ?_)
  generalize hWd : W0.drew = V1 at *
  clear hWd
  refine wpAnyH_take (i := 0) (v := (.pointer (some ⟨gx, 0, none⟩))) rfl (by kernel_rfl) (by kernel_rfl) (by kernel_rfl) (fun _ _ _ h => h) (yl_move (by rfl) _ (by rfl) _ (by rfl)) hH ?_
  change wpAnyH _ _ _ _ _ _ _ (Act.put _ (some 12) _) _
  simp only [Act.put, List.setIfInBounds_toArray, List.set_cons_zero, List.set_cons_succ]
  refine wpAnyH_take (i := 1) (v := (.pointer (some ⟨gx, 0, none⟩))) rfl (by kernel_rfl) (by kernel_rfl) (by kernel_rfl) (fun _ _ _ h => h) (.inl ⟨by rfl, fun W _ => by go_simp⟩) hH ?_
  change wpAnyH _ _ _ _ _ _ _ (Act.put _ (some 13) _) _
  simp only [Act.put, List.setIfInBounds_toArray, List.set_cons_zero, List.set_cons_succ]
  refine wpAnyH_take (i := 2) (v := (.pointer (some ⟨gx, 1, none⟩))) rfl (by kernel_rfl) (by kernel_rfl) (by kernel_rfl) (fun _ _ _ h => h) (.inl ⟨by rfl, fun W _ => by go_simp⟩) hH ?_
  change wpAnyH _ _ _ _ _ _ _ (Act.put _ (some 14) _) _
  simp only [Act.put, List.setIfInBounds_toArray, List.set_cons_zero, List.set_cons_succ]
  refine wpAnyH_take (i := 3) (v := (.map (some gm))) rfl (by kernel_rfl) (by kernel_rfl) (by kernel_rfl) (fun _ _ _ h => h) (.inl ⟨by rfl, fun W hS => by have c4 := (X1.out.next hS).cells.2.1; go_simp⟩) hH ?_
  change wpAnyH _ _ _ _ _ _ _ (Act.put _ (some 15) _) _
  simp only [Act.put, List.setIfInBounds_toArray, List.set_cons_zero, List.set_cons_succ]
  refine wpAnyH_take (i := 4) (v := (.agg C)) rfl (by kernel_rfl) (by kernel_rfl) (by kernel_rfl) (fun _ _ _ h => h) (yl_load (by rfl) _ (by rfl) _ C (by rfl) (fun W hS => ld_row A25 CZ.out ((hS.block _ (lt_heap R3.out)).trans R3.out))) hH ?_
  change wpAnyH _ _ _ _ _ _ _ (Act.put _ (some 16) _) _
  simp only [Act.put, List.setIfInBounds_toArray, List.set_cons_zero, List.set_cons_succ]
  refine wpAnyH_take (i := 5) (v := (.tuple #[.int .i64 c, .bool false])) rfl (by kernel_rfl) (by kernel_rfl) (by kernel_rfl) (fun _ _ _ h => h) (yl_look (by rfl) _ _ _ (by rfl) _ _ (by rfl) (by rfl) _ (fun W hS => LK.out W (X1.out.next hS))) hH ?_
  change wpAnyH _ _ _ _ _ _ _ (Act.put _ (some 17) _) _
  simp only [Act.put, List.setIfInBounds_toArray, List.set_cons_zero, List.set_cons_succ]
  refine wpAnyH_take (i := 6) (v := (.tuple #[.int .i64 c, .bool false])) rfl (by kernel_rfl) (by kernel_rfl) (by kernel_rfl) (fun _ _ _ h => h) (yl_move (by rfl) _ (by rfl) _ (by rfl)) hH ?_
  change wpAnyH _ _ _ _ _ _ _ (Act.put _ (some 11) _) _
  simp only [Act.put, List.setIfInBounds_toArray, List.set_cons_zero, List.set_cons_succ]
  refine wpAnyH_take (i := 7) (v := (.int .i64 c)) rfl (by kernel_rfl) (by kernel_rfl) (by kernel_rfl) (fun _ _ _ h => h) (.inl ⟨by rfl, fun W _ => by go_simp⟩) hH ?_
  change wpAnyH _ _ _ _ _ _ _ (Act.put _ (some 18) _) _
  simp only [Act.put, List.setIfInBounds_toArray, List.set_cons_zero, List.set_cons_succ]
  refine wpAnyH_take (i := 8) (v := (.bool false)) rfl (by kernel_rfl) (by kernel_rfl) (by kernel_rfl) (fun _ _ _ h => h) (.inl ⟨by rfl, fun W _ => by go_simp⟩) hH ?_
  change wpAnyH _ _ _ _ _ _ _ (Act.put _ (some 19) _) _
  simp only [Act.put, List.setIfInBounds_toArray, List.set_cons_zero, List.set_cons_succ]
  refine wpAnyH_take (i := 9) (v := (.int .i64 c)) rfl (by kernel_rfl) (by kernel_rfl) (by kernel_rfl) (fun _ _ _ h => h) (.inl ⟨by rfl, fun W _ => by go_simp⟩) hH ?_
  change wpAnyH _ _ _ _ _ _ _ (Act.put _ (some 6) _) _
  simp only [Act.put, List.setIfInBounds_toArray, List.set_cons_zero, List.set_cons_succ]
  refine wpAnyH_take (i := 10) (v := (.bool false)) rfl (by kernel_rfl) (by kernel_rfl) (by kernel_rfl) (fun _ _ _ h => h) (.inl ⟨by rfl, fun W _ => by go_simp⟩) hH ?_
  change wpAnyH _ _ _ _ _ _ _ (Act.put _ (some 7) _) _
  simp only [Act.put, List.setIfInBounds_toArray, List.set_cons_zero, List.set_cons_succ]
  refine wpAnyH_done (by kernel_rfl) ?_ _
  clear hH
  have R5 := hide ((DV1.out.block _ (lt_heap R4.out)).trans R4.out)
  go_wp2_with ((with_reducible refine at_list ?_); first | refine wpList_buildA AEn rfl rfl ?_ | refine wpList_storeA AEn rfl _ _ rfl (w.heap.size + 1) zEn.cells.toArray zEn.size zEn.all rfl rfl zEn.cells.toArray zEn.size 28 R5.out ?_)
  exact bodyPost_ret (v := .tuple #[.agg zEn.cells.toArray, .bool false]) (resA2K AEn Tryz.results27 _ _ (w.heap.size + 1) 28 _ zEn.size rfl (setRow_heap _ _ _ _ _ _ R5.out) _ rfl) rfl ⟨rfl, below_setRow (below_next B1.out DV1.out) (by omega) _⟩
theorem getI_yes {B w : World} {gx gm gj n : Nat} {D : DataW Unit} {ve : Value} {L : List En} {lo : Int} (h : Xm B w gx gm gj n D ve L lo) (l : List UInt8) (hl : l.length = 32) (k : Nat) (hk : k < L.length) (hm : L.length ≤ 1000000) (hat : D.atKey (.string l) (.lit (.int .i64 0)) = .lit (.int .i64 (k : Int))) (hh : Maps.has D (.string l) = true) : Calls Tryz.prog 27 #[.pointer (some ⟨gx, 0, none⟩), .agg (hc l)] w fun e w' => e = .returned (.tuple #[.agg L[k].cells.toArray, .bool true]) ∧ Below w.heap.size w w' := by
  have s1 : (w.alloc (.cells (hc l) 24)).heap.size = w.heap.size + 1 := by simp
  have R3 := hide ((Below.heap_alloc _ (.cells zEn.cells.toArray 28) _ (lt_heap (heap_alloc_last w (.cells (hc l) 24)))).trans (heap_alloc_last w (.cells (hc l) 24)))
  have R4 := hide (heap_alloc_last (w.alloc (.cells (hc l) 24)) (.cells zEn.cells.toArray 28))
  have b1 := ((Below.refl w.heap.size w).alloc (Nat.le_refl _) (.cells (hc l) 24)).alloc (by rw [s1]; omega) (.cells zEn.cells.toArray 28)
  have B1 := hide b1
  have X1 := hide (h.next b1)
  obtain ⟨ao, cap, rfl⟩ := h.own.form
  obtain ⟨ge, oe, rfl⟩ := h.own.read.base (by omega)
  have LK : Hid (∀ W, Xm B W gx gm gj n D (.slice (some ⟨ge, oe, none⟩) L.length cap) L lo → (Instr.lookup 105 (.map (some gm)) (.agg (hc l)) true).run Tryz.prog W = .ok (.tuple #[.int .i64 (k : Int), .bool true]) W) := fun W x => by
    have := look13 x.map l hl k hat
    rw [hh] at this
    exact this
  have LD : Hid (∀ W, Xm B W gx gm gj n D (.slice (some ⟨ge, oe, none⟩) L.length cap) L lo → W.rangeAt ge (oe + k * 73) L[k].cells) := fun W x => x.own.read.range k hk
  have CZ : Hid ((hc l).size = 32) := by show _ = _; rw [hc_size, hl]
  have h1 : (k : Int) < (L.length : Int) := by omega
  have h2 : (0 : Int) ≤ (k : Int) := by omega
  have EZ := hide L[k].size
  have EA := hide L[k].all
  rw [s1] at R4
  clear b1 hat hh h hm
  generalize hc l = C at *
  generalize L[k] = X at *
  clear hk
  go_enter Tryz.func27, Tryz.ntmps27
  go_upto_region 1 with ((with_reducible refine at_list ?_); first | refine wpList_boxA rfl _ rfl C rfl ?_ | refine wpList_allocA AEn rfl rfl ?_)
  try rw [s1]
  clear s1
  generalize (w.alloc (.cells C 24)).alloc (.cells zEn.cells.toArray 28) = W0 at *
  go_upto_region 3 with fail
  have DV1 := hide ((Below.refl W0.heap.size W0).drew)
  refine wp_region_held_drew (S := fun W => Below W0.heap.size W0 W) (by kernel_rfl) DV1.out (fun hH => ?_)
  generalize hWd : W0.drew = V1 at *
  clear hWd
  refine wpAnyH_take (i := 0) (v := (.pointer (some ⟨gx, 0, none⟩))) rfl (by kernel_rfl) (by kernel_rfl) (by kernel_rfl) (fun _ _ _ h => h) (yl_move (by rfl) _ (by rfl) _ (by rfl)) hH ?_
  change wpAnyH _ _ _ _ _ _ _ (Act.put _ (some 12) _) _
  simp only [Act.put, List.setIfInBounds_toArray, List.set_cons_zero, List.set_cons_succ]
  refine wpAnyH_take (i := 1) (v := (.pointer (some ⟨gx, 0, none⟩))) rfl (by kernel_rfl) (by kernel_rfl) (by kernel_rfl) (fun _ _ _ h => h) (.inl ⟨by rfl, fun W _ => by go_simp⟩) hH ?_
  change wpAnyH _ _ _ _ _ _ _ (Act.put _ (some 13) _) _
  simp only [Act.put, List.setIfInBounds_toArray, List.set_cons_zero, List.set_cons_succ]
  refine wpAnyH_take (i := 2) (v := (.pointer (some ⟨gx, 1, none⟩))) rfl (by kernel_rfl) (by kernel_rfl) (by kernel_rfl) (fun _ _ _ h => h) (.inl ⟨by rfl, fun W _ => by go_simp⟩) hH ?_
  change wpAnyH _ _ _ _ _ _ _ (Act.put _ (some 14) _) _
  simp only [Act.put, List.setIfInBounds_toArray, List.set_cons_zero, List.set_cons_succ]
  refine wpAnyH_take (i := 3) (v := (.map (some gm))) rfl (by kernel_rfl) (by kernel_rfl) (by kernel_rfl) (fun _ _ _ h => h) (.inl ⟨by rfl, fun W hS => by have c4 := (X1.out.next hS).cells.2.1; go_simp⟩) hH ?_
  change wpAnyH _ _ _ _ _ _ _ (Act.put _ (some 15) _) _
  simp only [Act.put, List.setIfInBounds_toArray, List.set_cons_zero, List.set_cons_succ]
  refine wpAnyH_take (i := 4) (v := (.agg C)) rfl (by kernel_rfl) (by kernel_rfl) (by kernel_rfl) (fun _ _ _ h => h) (yl_load (by rfl) _ (by rfl) _ C (by rfl) (fun W hS => ld_row A25 CZ.out ((hS.block _ (lt_heap R3.out)).trans R3.out))) hH ?_
  change wpAnyH _ _ _ _ _ _ _ (Act.put _ (some 16) _) _
  simp only [Act.put, List.setIfInBounds_toArray, List.set_cons_zero, List.set_cons_succ]
  refine wpAnyH_take (i := 5) (v := (.tuple #[.int .i64 (k : Int), .bool true])) rfl (by kernel_rfl) (by kernel_rfl) (by kernel_rfl) (fun _ _ _ h => h) (yl_look (by rfl) _ _ _ (by rfl) _ _ (by rfl) (by rfl) _ (fun W hS => LK.out W (X1.out.next hS))) hH ?_
  change wpAnyH _ _ _ _ _ _ _ (Act.put _ (some 17) _) _
  simp only [Act.put, List.setIfInBounds_toArray, List.set_cons_zero, List.set_cons_succ]
  refine wpAnyH_take (i := 6) (v := (.tuple #[.int .i64 (k : Int), .bool true])) rfl (by kernel_rfl) (by kernel_rfl) (by kernel_rfl) (fun _ _ _ h => h) (yl_move (by rfl) _ (by rfl) _ (by rfl)) hH ?_
  change wpAnyH _ _ _ _ _ _ _ (Act.put _ (some 11) _) _
  simp only [Act.put, List.setIfInBounds_toArray, List.set_cons_zero, List.set_cons_succ]
  refine wpAnyH_take (i := 7) (v := (.int .i64 (k : Int))) rfl (by kernel_rfl) (by kernel_rfl) (by kernel_rfl) (fun _ _ _ h => h) (.inl ⟨by rfl, fun W _ => by go_simp⟩) hH ?_
  change wpAnyH _ _ _ _ _ _ _ (Act.put _ (some 18) _) _
  simp only [Act.put, List.setIfInBounds_toArray, List.set_cons_zero, List.set_cons_succ]
  refine wpAnyH_take (i := 8) (v := (.bool true)) rfl (by kernel_rfl) (by kernel_rfl) (by kernel_rfl) (fun _ _ _ h => h) (.inl ⟨by rfl, fun W _ => by go_simp⟩) hH ?_
  change wpAnyH _ _ _ _ _ _ _ (Act.put _ (some 19) _) _
  simp only [Act.put, List.setIfInBounds_toArray, List.set_cons_zero, List.set_cons_succ]
  refine wpAnyH_take (i := 9) (v := (.int .i64 (k : Int))) rfl (by kernel_rfl) (by kernel_rfl) (by kernel_rfl) (fun _ _ _ h => h) (.inl ⟨by rfl, fun W _ => by go_simp⟩) hH ?_
  change wpAnyH _ _ _ _ _ _ _ (Act.put _ (some 6) _) _
  simp only [Act.put, List.setIfInBounds_toArray, List.set_cons_zero, List.set_cons_succ]
  refine wpAnyH_take (i := 10) (v := (.bool true)) rfl (by kernel_rfl) (by kernel_rfl) (by kernel_rfl) (fun _ _ _ h => h) (.inl ⟨by rfl, fun W _ => by go_simp⟩) hH ?_
  change wpAnyH _ _ _ _ _ _ _ (Act.put _ (some 7) _) _
  simp only [Act.put, List.setIfInBounds_toArray, List.set_cons_zero, List.set_cons_succ]
  refine wpAnyH_done (by kernel_rfl) ?_ _
  clear hH
  have R5 := hide ((DV1.out.block _ (lt_heap R4.out)).trans R4.out)
  have X2 := hide (X1.out.next DV1.out)
  have c2 := X2.out.cells.2.2.1
  have RG := hide (LD.out _ X2.out)
  go_wp2_with ((with_reducible refine at_list ?_); first | refine wpLoadEn _ rfl ge (oe + k * 73) rfl X RG.out (by rfl) ?_ | refine wpList_storeA AEn rfl _ _ rfl (w.heap.size + 1) X.cells.toArray EZ.out EA.out rfl rfl zEn.cells.toArray zEn.size 28 R5.out ?_)
  exact bodyPost_ret (v := .tuple #[.agg X.cells.toArray, .bool true]) (resA2K AEn Tryz.results27 _ _ (w.heap.size + 1) 28 _ EZ.out rfl (setRow_heap _ _ _ _ _ _ R5.out) _ rfl) rfl ⟨rfl, below_setRow (below_next B1.out DV1.out) (by omega) _⟩
end
end Go.Proofs.YtpffaaalncdjcaaGreatDoor
