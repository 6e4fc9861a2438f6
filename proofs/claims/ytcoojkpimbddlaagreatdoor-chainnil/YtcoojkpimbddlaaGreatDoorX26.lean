/- A tree of genesis: New; find, Get, At of what is there: their contracts. A tree of genesis: New: its contract. -/
import Derived.Test.YtcoojkpimbddlaaGreatDoorP0
import Derived.Test.YtcoojkpimbddlaaGreatDoorX25
import Derived.Test.YtcoojkpimbddlaaGreatDoorX24
import Derived.Test.YtcoojkpimbddlaaGreatDoorX15
namespace Go.Proofs.YtcoojkpimbddlaaGreatDoor
open Go.RowKit
open Go.Deep
open Go.Maps
set_option linter.unusedVariables false
theorem make14 (w : World) : (Instr.makeMap 118 none).run Tryz.prog w = .ok (.map (some w.heap.size)) (w.alloc (.map #[] 0)) := by
  have ht := Tryz.underlying118
  unfold Instr.makeMap
  simp [newObj]
  rfl
theorem ex_ins {a : Act} {o : Oper} {w w1 : World} (t : TypeId) (m x y : Operand) (ho : o.op = .insert t m x y) (vm vx vy : Value) (hm : a.eval m = vm) (hx : a.eval x = vx) (hy : a.eval y = vy) (hr : (Instr.mapUpdate t vm vx vy).run Tryz.prog w = .ok () w1) : (execOp a.eval o).run Tryz.prog w = .ok .skip w1 := by
  unfold execOp
  simp [ho, hm, hx, hy, hr, Result.andThen]
def wkG : Nat := (M - 1 - tgt 545259519) / (tgt 545259519 + 1) + 1
def ndG : Tno := ⟨(gH.at 1).id, gH.at 1, 0, 0, wkG, true, true, false, 1, 0, 0, 0, 0, Hd.id_len _⟩
theorem bld_No (i : List UInt8) (hi : i.length = 32) (h : Hd) (k : Nat) (W : World) : (Instr.build 53 #[(0, .agg (hc i)), (1, .agg h.cells.toArray), (4, .agg (wn k)), (5, .bool true), (6, .bool true), (8, .int .i64 1)]).run Tryz.prog W = .ok (.agg (⟨i, h, 0, 0, k, true, true, false, 1, 0, 0, 0, 0, hi⟩ : Tno).pub.toArray) W := by
  obtain ⟨ve, p, r, t, b, o, hp, hr⟩ := h
  obtain ⟨_, _, _, _, _, _, _, _, _, _, _, _, _, _, _, _, _, _, _, _, _, _, _, _, _, _, _, _, _, _, _, _, rfl⟩ := id32' i hi
  obtain ⟨_, _, _, _, _, _, _, _, _, _, _, _, _, _, _, _, _, _, _, _, _, _, _, _, _, _, _, _, _, _, _, _, rfl⟩ := id32' p hp
  obtain ⟨_, _, _, _, _, _, _, _, _, _, _, _, _, _, _, _, _, _, _, _, _, _, _, _, _, _, _, _, _, _, _, _, rfl⟩ := id32' r hr
  kernel_rfl
theorem bld_nd (i : List UInt8) (hi : i.length = 32) (h : Hd) (k : Nat) (W : World) : (Instr.build 120 #[(0, .agg (⟨i, h, 0, 0, k, true, true, false, 1, 0, 0, 0, 0, hi⟩ : Tno).pub.toArray)]).run Tryz.prog W = .ok (.agg (⟨i, h, 0, 0, k, true, true, false, 1, 0, 0, 0, 0, hi⟩ : Tno).cells.toArray) W := by
  obtain ⟨ve, p, r, t, b, o, hp, hr⟩ := h
  obtain ⟨_, _, _, _, _, _, _, _, _, _, _, _, _, _, _, _, _, _, _, _, _, _, _, _, _, _, _, _, _, _, _, _, rfl⟩ := id32' i hi
  obtain ⟨_, _, _, _, _, _, _, _, _, _, _, _, _, _, _, _, _, _, _, _, _, _, _, _, _, _, _, _, _, _, _, _, rfl⟩ := id32' p hp
  obtain ⟨_, _, _, _, _, _, _, _, _, _, _, _, _, _, _, _, _, _, _, _, _, _, _, _, _, _, _, _, _, _, _, _, rfl⟩ := id32' r hr
  kernel_rfl
theorem bld_tr (g g1 : Nat) (W : World) : (Instr.build 123 #[(0, .map (some g)), (1, .slice (some ⟨g1, 0, none⟩) 1 1), (2, .int .i64 1)]).run Tryz.prog W = .ok (.agg (trA g (.slice (some ⟨g1, 0, none⟩) 1 1) 1 0 0)) W := by kernel_rfl
theorem fieldBk14 (h : Hd) (v : Value) (W : World) : (Instr.field 62 (.agg (bkA h v)) 0).run Tryz.prog W = .ok (.agg h.cells.toArray) W := by
  obtain ⟨ve, p, r, t, b, o, hp, hr⟩ := h
  obtain ⟨_, _, _, _, _, _, _, _, _, _, _, _, _, _, _, _, _, _, _, _, _, _, _, _, _, _, _, _, _, _, _, _, rfl⟩ := id32' p hp
  obtain ⟨_, _, _, _, _, _, _, _, _, _, _, _, _, _, _, _, _, _, _, _, _, _, _, _, _, _, _, _, _, _, _, _, rfl⟩ := id32' r hr
  kernel_rfl
theorem wpFieldBk14 {w : World} {ops : Array Oper} {rest : List Oper} {o : Oper} {a : Act} {Q : Exit → Act → World → Prop} (x : Operand) (ho : o.op = .field 62 x 0) (h0 : Hd) (v : Value) (hx : a.eval x = .agg (bkA h0 v)) (hw : Region.wanted o (yielded ops a.tmps) = true)
    (h : wpList Tryz.prog ops Q rest (a.put o.dst (.agg h0.cells.toArray)) w) : wpList Tryz.prog ops Q (o :: rest) a w := by
  refine wpList_step fun K hK => ?_
  rw [if_pos hw]
  unfold Oper.wp execOp
  simp only [ho, hx, Sem.run_bind, fieldBk14, Result.andThen_ok, Sem.run_pure]
  exact hK _ _ h
section
set_option maxRecDepth 10000
set_option maxHeartbeats 4000000
theorem findT_any {B w : World} {gt gm n : Nat} {D : DataW Unit} {ve : Value} {L : List Tno} {tu be bh : Nat} (h : Tm4 B w gt gm n D ve L tu be bh) (l : List UInt8) (hl : l.length = 32) (c : Int) (hat : D.atKey (.string l) (.lit (.int .i64 0)) = .lit (.int .i64 c)) : Calls Tryz.prog 72 #[.pointer (some ⟨gt, 0, none⟩), .agg (hc l)] w fun e w' => e = .returned (.tuple #[.int .i64 c, .bool (Maps.has D (.string l))]) ∧ Below w.heap.size w w' := by
  have R3 := hide (heap_alloc_last w (.cells (hc l) 46))
  have b1 := (Below.refl w.heap.size w).alloc (Nat.le_refl _) (.cells (hc l) 46)
  have B1 := hide b1
  have X1 := hide (h.next b1)
  have LK : Hid (∀ W, Tm4 B W gt gm n D ve L tu be bh → (Instr.lookup 118 (.map (some gm)) (.agg (hc l)) true).run Tryz.prog W = .ok (.tuple #[.int .i64 c, .bool (Maps.has D (.string l))]) W) := fun W x => look14 x.map l hl c hat
  have CZ : Hid ((hc l).size = 32) := by show _ = _; rw [hc_size, hl]
  clear b1 hat h
  generalize Maps.has D (.string l) = hs at *
  generalize hc l = C at *
  go_enter Tryz.func72, Tryz.ntmps72
  go_upto_region 1 with ((with_reducible refine at_list ?_); refine wpList_boxA rfl _ rfl C rfl ?_)
  generalize w.alloc (.cells C 46) = W0 at *
  go_upto_region 3 with fail
  have DV1 := hide ((Below.refl W0.heap.size W0).drew)
  refine wp_region_held_drew (S := fun W => Below W0.heap.size W0 W) (by kernel_rfl) DV1.out (fun hH => ?_)
  generalize hWd : W0.drew = V1 at *
  clear hWd
  refine wt (i := 0) (v := (.pointer (some ⟨gt, 0, none⟩))) rfl (yl_move (by rfl) _ (by rfl) _ (by rfl)) hH ?_
  change wpAnyH _ _ _ _ _ _ _ (Act.put _ (some 11) _) _
  simp only [Act.put, s0, s1, s2]
  refine wt (i := 1) (v := (.pointer (some ⟨gt, 0, none⟩))) rfl (.inl ⟨by rfl, fun W _ => by go_simp⟩) hH ?_
  change wpAnyH _ _ _ _ _ _ _ (Act.put _ (some 12) _) _
  simp only [Act.put, s0, s1, s2]
  refine wt (i := 2) (v := (.pointer (some ⟨gt, 0, none⟩))) rfl (.inl ⟨by rfl, fun W _ => by go_simp⟩) hH ?_
  change wpAnyH _ _ _ _ _ _ _ (Act.put _ (some 13) _) _
  simp only [Act.put, s0, s1, s2]
  refine wt (i := 3) (v := (.map (some gm))) rfl (.inl ⟨by rfl, fun W hS => by have c4 := (X1.out.next hS).cells.1; go_simp⟩) hH ?_
  change wpAnyH _ _ _ _ _ _ _ (Act.put _ (some 14) _) _
  simp only [Act.put, s0, s1, s2]
  refine wt (i := 4) (v := (.agg C)) rfl (yl_load (by rfl) _ (by rfl) _ C (by rfl) (fun W hS => ld_row A25 CZ.out ((hS.block _ (lt_heap R3.out)).trans R3.out))) hH ?_
  change wpAnyH _ _ _ _ _ _ _ (Act.put _ (some 15) _) _
  simp only [Act.put, s0, s1, s2]
  refine wt (i := 5) (v := (.tuple #[.int .i64 c, .bool hs])) rfl (yl_look14 (by rfl) _ _ _ (by rfl) _ _ (by rfl) (by rfl) _ (fun W hS => LK.out W (X1.out.next hS))) hH ?_
  change wpAnyH _ _ _ _ _ _ _ (Act.put _ (some 16) _) _
  simp only [Act.put, s0, s1, s2]
  refine wt (i := 6) (v := (.tuple #[.int .i64 c, .bool hs])) rfl (yl_move (by rfl) _ (by rfl) _ (by rfl)) hH ?_
  change wpAnyH _ _ _ _ _ _ _ (Act.put _ (some 10) _) _
  simp only [Act.put, s0, s1, s2]
  refine wt (i := 7) (v := (.int .i64 c)) rfl (.inl ⟨by rfl, fun W _ => by go_simp⟩) hH ?_
  change wpAnyH _ _ _ _ _ _ _ (Act.put _ (some 17) _) _
  simp only [Act.put, s0, s1, s2]
  refine wt (i := 8) (v := (.bool hs)) rfl (.inl ⟨by rfl, fun W _ => by go_simp⟩) hH ?_
  change wpAnyH _ _ _ _ _ _ _ (Act.put _ (some 18) _) _
  simp only [Act.put, s0, s1, s2]
  refine wt (i := 9) (v := (.int .i64 c)) rfl (.inl ⟨by rfl, fun W _ => by go_simp⟩) hH ?_
  change wpAnyH _ _ _ _ _ _ _ (Act.put _ (some 6) _) _
  simp only [Act.put, s0, s1, s2]
  refine wt (i := 10) (v := (.bool hs)) rfl (.inl ⟨by rfl, fun W _ => by go_simp⟩) hH ?_
  change wpAnyH _ _ _ _ _ _ _ (Act.put _ (some 7) _) _
  simp only [Act.put, s0, s1, s2]
  refine wpAnyH_done (by kernel_rfl) ?_ _
  clear hH
  go_wp2
  go_ret2
  exact ⟨rfl, below_next B1.out DV1.out⟩
theorem getT_yes {B w : World} {gt gm n : Nat} {D : DataW Unit} {ve : Value} {L : List Tno} {tu be bh : Nat} (h : Tm4 B w gt gm n D ve L tu be bh) (l : List UInt8) (hl : l.length = 32) (k : Nat) (hk : k < L.length) (hm : L.length ≤ 1000000) (hat : D.atKey (.string l) (.lit (.int .i64 0)) = .lit (.int .i64 (k : Int))) (hh : Maps.has D (.string l) = true) : Calls Tryz.prog 15 #[.pointer (some ⟨gt, 0, none⟩), .agg (hc l)] w fun e w' => e = .returned (.tuple #[.agg L[k].pub.toArray, .bool true]) ∧ Below w.heap.size w w' := by
  have s1 : (w.alloc (.cells (hc l) 46)).heap.size = w.heap.size + 1 := by simp
  have R3 := hide ((Below.heap_alloc _ (.cells zTno.pub.toArray 53) _ (lt_heap (heap_alloc_last w (.cells (hc l) 46)))).trans (heap_alloc_last w (.cells (hc l) 46)))
  have R4 := hide (heap_alloc_last (w.alloc (.cells (hc l) 46)) (.cells zTno.pub.toArray 53))
  have b1 := ((Below.refl w.heap.size w).alloc (Nat.le_refl _) (.cells (hc l) 46)).alloc (by rw [s1]; omega) (.cells zTno.pub.toArray 53)
  have B1 := hide b1
  have X1 := hide (h.next b1)
  obtain ⟨ao, cap, rfl⟩ := h.own.form
  obtain ⟨ge, oe, rfl⟩ := h.own.read.base (by omega)
  have HF : Hid (∀ W, Tm4 B W gt gm n D (.slice (some ⟨ge, oe, none⟩) L.length cap) L tu be bh → Calls Tryz.prog 72 #[.pointer (some ⟨gt, 0, none⟩), .agg (hc l)] W fun e w' => e = .returned (.tuple #[.int .i64 (k : Int), .bool true]) ∧ Below W.heap.size W w') := fun W x => by
    have := findT_any x l hl k hat
    rw [hh] at this
    exact this
  have LD : Hid (∀ W, Tm4 B W gt gm n D (.slice (some ⟨ge, oe, none⟩) L.length cap) L tu be bh → W.rangeAt ge (oe + k * 114) L[k].pub) := fun W x => L[k].rpub (x.own.read.range k hk)
  have CZ : Hid ((hc l).size = 32) := by show _ = _; rw [hc_size, hl]
  have h1 : (k : Int) < (L.length : Int) := by omega
  have h2 : (0 : Int) ≤ (k : Int) := by omega
  have EZ := hide (And.intro L[k].pubA_size L[k].pubA_all)
  have ZZ := hide zTno.pubA_size
  rw [s1] at R4
  clear b1 hat hh h hm
  generalize hc l = C at *
  generalize L[k] = X at *
  clear hk
  go_enter Tryz.func15, Tryz.ntmps15
  go_upto_region 1 with ((with_reducible refine at_list ?_); first | refine wpList_boxA rfl _ rfl C rfl ?_ | refine wpList_allocA ANo rfl rfl ?_)
  try rw [s1]
  clear s1
  generalize (w.alloc (.cells C 46)).alloc (.cells zTno.pub.toArray 53) = W0 at *
  go_upto_region 2 with (first | (go_at_call 72; refine (HF.out _ X1.out).mono ?_; rintro e W1 ⟨rfl, be⟩; have D1 := hide be; clear be) | ((with_reducible refine at_list ?_); refine wpList_loadS A25 _ rfl w.heap.size rfl C CZ.out 46 R3.out (by rfl) ?_))
  have R5 := hide ((D1.out.block _ (lt_heap R4.out)).trans R4.out)
  have X2 := hide (X1.out.next D1.out)
  have c1 := X2.out.cells.2.1
  have RG := hide (LD.out _ X2.out)
  go_wp2_with ((with_reducible refine at_list ?_); first | refine wpLoadNo _ rfl ge (oe + k * 114) rfl X RG.out (by rfl) ?_ | refine wpList_storeA ANo rfl _ _ rfl (w.heap.size + 1) X.pub.toArray EZ.out.1 EZ.out.2 rfl rfl zTno.pub.toArray ZZ.out 53 R5.out ?_)
  exact bodyPost_ret (v := .tuple #[.agg X.pub.toArray, .bool true]) (resA2K ANo Tryz.results15 _ _ (w.heap.size + 1) 53 _ EZ.out.1 rfl (setRow_heap _ _ _ _ _ _ R5.out) _ rfl) rfl ⟨rfl, below_setRow (below_next B1.out D1.out) (by omega) _⟩
end
end Go.Proofs.YtcoojkpimbddlaaGreatDoor
namespace Go.Proofs.YtcoojkpimbddlaaGreatDoor
open Go.RowKit
open Go.Deep
open Go.Maps
set_option linter.unusedVariables false
set_option linter.unusedSimpArgs false
section
variable {w w1 : World} {ops : Array Oper} {rest : List Oper} {o : Oper} {a : Act} {K : Act → World → Prop} {Q : Exit → Act → World → Prop} {E0 : Prop}
theorem step_run14 (hgd : o.guard = none) {v : Value} (hr : (execOp a.eval o).run Tryz.prog w = .ok (.value v) w1) (hk : K (a.put o.dst v) w1) : if Region.wanted o (yielded ops a.tmps) = true then Oper.wp Tryz.prog o a w K Q else E0 := by
  have hw : Region.wanted o (yielded ops a.tmps) = true := by simp [Region.wanted, hgd]
  rw [if_pos hw]
  unfold Oper.wp
  rw [hr]
  exact hk
theorem step_skip14 (hgd : o.guard = none) (hr : (execOp a.eval o).run Tryz.prog w = .ok .skip w1) (hk : K (a.put o.dst undef) w1) : if Region.wanted o (yielded ops a.tmps) = true then Oper.wp Tryz.prog o a w K Q else E0 := by
  have hw : Region.wanted o (yielded ops a.tmps) = true := by simp [Region.wanted, hgd]
  rw [if_pos hw]
  unfold Oper.wp
  rw [hr]
  exact hk
end
theorem ex_mk14 {a : Act} {o : Oper} {w : World} (ho : o.op = .makeMap 118 none) : (execOp a.eval o).run Tryz.prog w = .ok (.value (.map (some w.heap.size))) (w.alloc (.map #[] 0)) := by
  unfold execOp
  simp only [ho, Option.map_none, make14, Sem.run_bind, Result.andThen_ok, Sem.run_pure]
theorem OX.of_one {α : Type} (E : Ek α) {W : World} {g : Nat} {x : α} (h : W.heap[g]? = some (.cells (E.enc x).toArray E.e (0, 0))) : OX E W (.slice (some ⟨g, 0, none⟩) 1 1) [x] := by
  have e : flatE E [x] = E.enc x := by rw [flatE_cons, flatE_nil, List.append_nil]
  refine ⟨by rw [e, E.len]; simp, .inr ⟨g, 1, (E.enc x).toArray, rfl, Nat.zero_le _, h, Nat.le_refl _, by unfold maxLen; omega, by rw [List.size_toArray, E.len, Nat.one_mul], ?_⟩⟩
  rw [e]
  exact List.take_of_length_le (by rw [E.len]; simp)
theorem OmI.alloc {W : World} {b n : Nat} {D : DataW Unit} (h : OmI W b n D) (o : Obj) : OmI (W.alloc o) b n D := h.of_block (Below.heap_alloc _ _ _ h.lt)
theorem tm_new {B W : World} {gm gs tu : Nat} {D : DataW Unit} {n : Nat} {x : Tno} (bel : Below B.heap.size B W) (hm : OmI W gm n D) (hs : W.heap[gs]? = some (.cells (KNo.enc x).toArray KNo.e (0, 0))) (h1 : B.heap.size ≤ gm) (h2 : B.heap.size ≤ gs) (h3 : gs ≠ gm) : Tm4 B (W.alloc (.cells (trA gm (.slice (some ⟨gs, 0, none⟩) 1 1) tu 0 0) 123)) W.heap.size gm n D (.slice (some ⟨gs, 0, none⟩) 1 1) [x] tu 0 0 := by
  have l1 := hm.lt
  have l2 := lt_heap hs
  have l0 := bel.size
  refine ⟨heap_alloc_last W _, hm.alloc _, OX.of_one KNo ((Below.heap_alloc _ _ _ l2).trans hs), bel.alloc l0 _, l0, h1, by omega, fun g hg => ?_⟩
  have e : g = gs := by
    simp only [Value.ownBlock, Option.some.injEq] at hg
    exact hg.symm
  subst e
  exact ⟨h2, by omega, h3⟩
theorem ex_box14 {a : Act} {o : Oper} {w : World} {t : TypeId} (x : Operand) (ho : o.op = .box t x) (c : Array Value) (hx : a.eval x = .agg c) : (execOp a.eval o).run Tryz.prog w = .ok (.value (.pointer (some ⟨w.heap.size, 0, none⟩))) (w.alloc (.cells c t)) := by
  unfold execOp
  simp only [ho, hx, run_boxA, Sem.run_bind, Result.andThen_ok, Sem.run_pure]
section
set_option maxRecDepth 10000
set_option maxHeartbeats 4000000
theorem newT_any (w : World) (hK : Kg w) : Calls Tryz.prog 7 #[] w fun e w' => ∃ gt gm ve, e = .returned (.pointer (some ⟨gt, 0, none⟩)) ∧ Tm4 w w' gt gm 1 ((DataW.map []).put (.string (gH.at 1).id) (.lit (.int .i64 0))) ve [ndG] 1 0 0 := by
  have HG : Hid (∀ W, Kg W → Calls Tryz.prog 45 #[] W fun e w' => ∃ ao cap, e = .returned (.agg (bkA (gH.at 1) (.slice ao 1 cap))) ∧ Below W.heap.size W w') := fun W q => (genesis_any W q).mono (by rintro e w' ⟨ao, cap, y, rfl, _, _, be⟩; exact ⟨ao, cap, rfl, be⟩)
  have HI : Hid (∀ W, Kg W → Calls Tryz.prog 46 #[.agg (gH.at 1).cells.toArray] W fun e w' => e = .returned (.agg (hc (gH.at 1).id)) ∧ Below W.heap.size W w') := fun W q => hid_any (gH.at 1) W q
  have HW : Hid (∀ W, Calls Tryz.prog 47 #[.int .u32 545259519] W fun e w' => e = .returned (.tuple #[.agg (wn wkG), .int .i64 0]) ∧ Below W.heap.size W w') := fun W => work_yes 545259519 (by omega) (by decide +kernel) W
  have KS : Hid (∀ W, Below w.heap.size w W → Kg W) := fun W b => hK.next b
  have HZ := hide (And.intro (show (gH.at 1).cells.toArray.size = 68 by rw [List.size_toArray, Hd.len]) (gH.at 1).all)
  have IZ := hide (And.intro (show (hc (gH.at 1).id).size = 32 by rw [hc_size, Hd.id_len]) (hc_one (gH.at 1).id))
  have WZ := hide (And.intro (wn_size wkG) (wn_one wkG))
  have NZ := hide (And.intro ndG.pubA_size ndG.pubA_all)
  have CB : Hid (∀ (W : World) (g : Nat), W.heap[g]? = some (.cells (gH.at 1).cells.toArray 48 (0, 0)) → W.cell? ⟨g, 66, none⟩ = some (.int .u32 545259519)) := fun W g e => by
    have q1 := (gH.at 1).bits0 (rowAt _ e)
    rw [Nat.zero_add] at q1
    exact q1
  have BP : Hid (∀ W, (Instr.build 53 #[(0, .agg (hc (gH.at 1).id)), (1, .agg (gH.at 1).cells.toArray), (4, .agg (wn wkG)), (5, .bool true), (6, .bool true), (8, .int .i64 1)]).run Tryz.prog W = .ok (.agg ndG.pub.toArray) W) := fun W => bld_No _ (Hd.id_len _) (gH.at 1) wkG W
  have BN : Hid (∀ W, (Instr.build 120 #[(0, .agg ndG.pub.toArray)]).run Tryz.prog W = .ok (.agg ndG.cells.toArray) W) := fun W => bld_nd _ (Hd.id_len _) (gH.at 1) wkG W
  have MP : Hid (∀ (W : World) (g : Nat), OmI W g 0 (.map []) → ∃ W', (Instr.mapUpdate 118 (.map (some g)) (.agg (hc (gH.at 1).id)) (.int .i64 0)).run Tryz.prog W = .ok () W' ∧ OmI W' g 1 ((DataW.map []).put (.string (gH.at 1).id) (.lit (.int .i64 0))) ∧ W.grownBy W' (some g)) := fun W g q => by
    obtain ⟨W', hr, ho, hg⟩ := q.store (val := .int .i64 0) (d := .lit (.int .i64 0)) (ps := []) lawH14 Tryz.underlying118 (by unfold maxLen; omega) (keyH14 _ (Hd.id_len _)) (plainElem_int Tryz.underlying3 (by decide))
    exact ⟨W', hr, ho, hg.grown⟩
  have EC : Hid ((KNo.enc ndG).toArray = ndG.cells.toArray) := rfl
  clear hK
  generalize (DataW.map []).put (.string (gH.at 1).id) (.lit (.int .i64 0)) = DD at *
  generalize wkG = WK at *
  generalize ndG = NG at *
  generalize hPP : NG.pub.toArray = PP at *
  generalize hCC : NG.cells.toArray = CC at *
  have HCC := hide hCC
  clear hPP hCC
  generalize gH.at 1 = HH at *
  generalize hc HH.id = ID at *
  go_enter Tryz.func7, Tryz.ntmps7
  go_upto_region 2 with (first | (go_at_call 45; refine (HG.out _ (KS.out _ (Below.refl _ _))).mono ?_; rintro e W1 ⟨ao, cap, rfl, be⟩; have D1 := hide be; clear be) | ((with_reducible refine at_list ?_); first | refine wpFieldBk14 _ rfl HH (.slice ao 1 cap) rfl (by rfl) ?_ | refine wpList_allocA AHd rfl rfl ?_ | refine wpList_store_newA AHd rfl _ _ rfl _ rfl HH.cells.toArray HZ.out.1 HZ.out.2 rfl rfl ?_))
  have b2 := (Below.refl W1.heap.size W1).alloc (Nat.le_refl _) (.cells HH.cells.toArray 48)
  have D2 := hide (below_next D1.out b2)
  have R2 := hide (heap_alloc_last W1 (.cells HH.cells.toArray 48))
  clear b2 D1 HG
  generalize W1.alloc (.cells HH.cells.toArray 48) = W2 at *
  generalize W1.heap.size = g1 at *
  go_upto_region 3 with (first | (go_at_call 46; refine (HI.out _ (KS.out _ D2.out)).mono ?_; rintro e W3 ⟨rfl, be⟩; have D3 := hide (below_next D2.out be); have R3 := hide ((be.block _ (lt_heap R2.out)).trans R2.out); clear be) | ((with_reducible refine at_list ?_); first | refine wpList_loadS AHd _ rfl g1 rfl HH.cells.toArray HZ.out.1 48 R2.out (by rfl) ?_ | refine wpList_allocA A25 rfl rfl ?_ | refine wpList_store_newA A25 rfl _ _ rfl _ rfl ID IZ.out.1 IZ.out.2 rfl rfl ?_))
  have b4 := (Below.refl W3.heap.size W3).alloc (Nat.le_refl _) (.cells ID 46)
  have D4 := hide (below_next D3.out b4)
  have R4 := hide (heap_alloc_last W3 (.cells ID 46))
  have R4h := hide ((b4.block _ (lt_heap R3.out)).trans R3.out)
  clear b4 D3 D2 R3 R2 HI
  generalize W3.alloc (.cells ID 46) = W4 at *
  generalize W3.heap.size = g2 at *
  have c4 := CB.out _ _ R4h.out
  go_upto_region 4 with (first | (go_at_call 47; refine (HW.out _).mono ?_; rintro e W5 ⟨rfl, be⟩; have B5 := hide be; clear be) | ((with_reducible refine at_list ?_); first | refine wpList_allocA AW rfl rfl ?_ | refine wpList_store_newA AW rfl _ _ rfl _ rfl (wn WK) WZ.out.1 WZ.out.2 rfl rfl ?_))
  have b6 := (Below.refl W5.heap.size W5).alloc (Nat.le_refl _) (.cells (wn WK) 51)
  have B6 := hide (below_next B5.out b6)
  have D6 := hide (below_next D4.out B6.out)
  have R6 := hide (heap_alloc_last W5 (.cells (wn WK) 51))
  have R6i := hide ((B6.out.block _ (lt_heap R4.out)).trans R4.out)
  have R6h := hide ((B6.out.block _ (lt_heap R4h.out)).trans R4h.out)
  clear b6 c4 B5 B6 D4 R4 R4h CB HW
  generalize W5.alloc (.cells (wn WK) 51) = W6 at *
  generalize W5.heap.size = g3 at *
  have bp := BP.out
  go_upto_region 5 with ((with_reducible refine at_list ?_); first | refine wpList_loadS A25 _ rfl g2 rfl ID IZ.out.1 46 R6i.out (by rfl) ?_ | refine wpList_loadS AHd _ rfl g1 rfl HH.cells.toArray HZ.out.1 48 R6h.out (by rfl) ?_ | refine wpList_loadS AW _ rfl g3 rfl (wn WK) WZ.out.1 51 R6.out (by rfl) ?_ | refine wpList_bldX rfl _ rfl #[(0, .agg ID), (1, .agg HH.cells.toArray), (4, .agg (wn WK)), (5, .bool true), (6, .bool true), (8, .int .i64 1)] PP (by simp only [List.map_toArray, List.map_cons, List.map_nil]; rfl) BP.out ?_ | refine wpList_allocA ANo rfl rfl ?_ | refine wpList_store_newA ANo rfl _ _ rfl _ rfl PP NZ.out.1 NZ.out.2 rfl rfl ?_)
  have b7 := (Below.refl W6.heap.size W6).alloc (Nat.le_refl _) (.cells PP 53)
  have D7 := hide (below_next D6.out b7)
  have R7 := hide (heap_alloc_last W6 (.cells PP 53))
  have R7i := hide ((b7.block _ (lt_heap R6i.out)).trans R6i.out)
  clear b7 bp D6 R6 R6i R6h BP
  generalize W6.alloc (.cells PP 53) = W7 at *
  generalize W6.heap.size = g4 at *
  have S7 : Hid (∀ W, Below W7.heap.size W7 W → W.heap[g2]? = some (.cells ID 46 (0, 0)) ∧ W.heap[g4]? = some (.cells PP 53 (0, 0))) := fun W b => ⟨(b.block _ (lt_heap R7i.out)).trans R7i.out, (b.block _ (lt_heap R7.out)).trans R7.out⟩
  have L7 := hide (Below.refl W7.heap.size W7).drew
  refine wp_region_held_drew (S := fun W => W.heap[g2]? = some (.cells ID 46 (0, 0)) ∧ W.heap[g4]? = some (.cells PP 53 (0, 0))) (by kernel_rfl) (S7.out _ L7.out) (fun hH => ?_)
  generalize W7.drew = V0 at *
  refine wt (i := 1) (v := (.agg ID)) rfl (yl_load (by rfl) _ (by rfl) _ ID (by rfl) (fun W hS => ld_row A25 IZ.out.1 hS.1)) hH ?_
  change wpAnyH _ _ _ _ _ _ _ (Act.put _ (some 21) _) _
  simp only [Act.put, s0, s1, s2]
  refine wt (i := 4) (v := (.agg PP)) rfl (yl_load (by rfl) _ (by rfl) _ PP (by rfl) (fun W hS => ld_row ANo NZ.out.1 hS.2)) hH ?_
  change wpAnyH _ _ _ _ _ _ _ (Act.put _ (some 23) _) _
  simp only [Act.put, s0, s1, s2]
  refine wt (i := 5) (v := (.agg CC)) rfl (yl_build (by rfl) _ (by rfl) #[(0, .agg PP)] CC (by simp only [List.map_toArray, List.map_cons, List.map_nil]; rfl) BN.out) hH ?_
  change wpAnyH _ _ _ _ _ _ _ (Act.put _ (some 24) _) _
  simp only [Act.put, s0, s1, s2]
  have LW0 := hide L7.out
  have OM0 : True := trivial
  have RS0 : True := trivial
  clear L7
  refine wpAnyH_ready (rs := [0, 6]) (by kernel_rfl) (by simp) (AllReadyH.cons rfl (fun K1 hK1 => ?_) (AllReadyH.cons rfl (fun K1 hK1 => ?_) AllReadyH.nil))
  · have RS1 : True := trivial
    have OM1 := hide (World.ownsMap_made (H := Unit) V0 Tryz.prog 46 (plainElem Tryz.prog 3))
    have LW1 := hide (below_next LW0.out ((Below.refl V0.heap.size V0).alloc (Nat.le_refl _) (.map #[] 0)))
    refine step_run14 (by rfl) (ex_mk14 (by rfl)) ?_
    refine hK1.out _ _ (S7.out _ LW1.out) (fun hH => ?_)
    clear hK1
    change wpAnyH _ _ _ _ _ _ _ (Act.put _ (some 20) _) _
    simp only [Act.put, s0, s1, s2]
    have GM7 : Hid (W7.heap.size ≤ V0.heap.size) := LW0.out.size
    have GM : Hid (w.heap.size ≤ V0.heap.size) := Nat.le_trans D7.out.size LW0.out.size
    generalize V0.alloc (.map #[] 0) = V1 at *
    generalize V0.heap.size = gm at *
    refine wpAnyH_ready (rs := [2, 6]) (by kernel_rfl) (by simp) (AllReadyH.cons rfl (fun K1 hK1 => ?_) (AllReadyH.cons rfl (fun K1 hK1 => ?_) AllReadyH.nil))
    · obtain ⟨V2, hrun, om, gr⟩ := MP.out V1 gm OM1.out
      have OM2 := hide om
      have GR := hide gr
      have LW2 : Hid (Below W7.heap.size W7 V2) := ⟨GR.out.os.trans LW1.out.os, GR.out.tape.trans LW1.out.tape, GR.out.output.trans LW1.out.output, Nat.le_trans LW1.out.size GR.out.size, fun q hq => (GR.out.block q (Nat.lt_of_lt_of_le hq LW1.out.size) (by intro e; cases e; have := GM7.out; omega)).trans (LW1.out.block q hq)⟩
      have RS2 : True := trivial
      refine step_skip14 (by rfl) (ex_ins _ _ _ _ (by rfl) _ _ _ (by rfl) (by rfl) (by rfl) hrun) ?_
      refine hK1.out _ _ (S7.out _ LW2.out) (fun hH => ?_)
      clear hK1 hrun om gr
      change wpAnyH _ _ _ _ _ _ _ (Act.put _ none _) _
      simp only [Act.put]
      refine wt (i := 3) (v := (.map (some gm))) rfl (yl_move (by rfl) _ (by rfl) _ (by rfl)) hH ?_
      change wpAnyH _ _ _ _ _ _ _ (Act.put _ (some 22) _) _
      simp only [Act.put, s0, s1, s2]
      refine wpAnyH_ready (rs := [6]) (by kernel_rfl) (by simp) (AllReadyH.cons rfl (fun K1 hK1 => ?_) AllReadyH.nil)
      have OM3 := hide (OM2.out.alloc (.cells (KNo.enc NG).toArray KNo.e))
      have RS3 := hide (heap_alloc_last V2 (.cells (KNo.enc NG).toArray KNo.e))
      have LW3 := hide (below_next LW2.out ((Below.refl V2.heap.size V2).alloc (Nat.le_refl _) (.cells (KNo.enc NG).toArray KNo.e)))
      refine Ek.stepBs1 KNo (by rfl) _ (by rfl) NG (by rw [EC.out]; rfl) ?_
      refine hK1.out _ _ (S7.out _ LW3.out) (fun hH => ?_)
      clear hK1
      change wpAnyH _ _ _ _ _ _ _ (Act.put _ (some 25) _) _
      simp only [Act.put, s0, s1, s2]
      have GS : Hid (w.heap.size ≤ V2.heap.size) := Nat.le_trans D7.out.size LW2.out.size
      have GN : Hid (V2.heap.size ≠ gm) := fun e => by have := OM2.out.lt; omega
      generalize V2.alloc (.cells (KNo.enc NG).toArray KNo.e) = V3 at *
      generalize V2.heap.size = gs at *
      have LV3 : Hid (Below w.heap.size w V3 ∧ w.heap.size ≤ gm ∧ w.heap.size ≤ gs ∧ gs ≠ gm) := ⟨below_next D7.out LW3.out, GM.out, GS.out, GN.out⟩
      refine wt (i := 7) (v := (.agg (trA gm (.slice (some ⟨gs, 0, none⟩) 1 1) 1 0 0))) rfl (yl_build (by rfl) _ (by rfl) #[(0, .map (some gm)), (1, .slice (some ⟨gs, 0, none⟩) 1 1), (2, .int .i64 1)] _ (by simp only [List.map_toArray, List.map_cons, List.map_nil]; rfl) (bld_tr gm gs)) hH ?_
      change wpAnyH _ _ _ _ _ _ _ (Act.put _ (some 26) _) _
      simp only [Act.put, s0, s1, s2]
      refine wpAnyH_ready (rs := [8]) (by kernel_rfl) (by simp) (AllReadyH.cons rfl (fun K1 hK1 => ?_) AllReadyH.nil)
      have FIN := hide (tm_new (tu := 1) LV3.out.1 OM3.out RS3.out LV3.out.2.1 LV3.out.2.2.1 LV3.out.2.2.2)
      refine step_run14 (by rfl) (ex_box14 _ (by rfl) (trA gm (.slice (some ⟨gs, 0, none⟩) 1 1) 1 0 0) (by rfl)) ?_
      refine hK1.out _ _ (S7.out _ (below_next LW3.out ((Below.refl V3.heap.size V3).alloc (Nat.le_refl _) _))) (fun hH => ?_)
      clear hK1
      change wpAnyH _ _ _ _ _ _ _ (Act.put _ (some 27) _) _
      simp only [Act.put, s0, s1, s2]
      refine wt (i := 9) (v := (.pointer (some ⟨V3.heap.size, 0, none⟩))) rfl (.inl ⟨by rfl, fun W _ => by go_simp⟩) hH ?_
      change wpAnyH _ _ _ _ _ _ _ (Act.put _ (some 0) _) _
      simp only [Act.put, s0, s1, s2]
      refine wpAnyH_done (by kernel_rfl) ?_ _
      go_wp2
      go_ret
      exact ⟨_, _, _, rfl, FIN.out⟩
    · have OM2 := hide (OM1.out.alloc (.cells (KNo.enc NG).toArray KNo.e))
      have RS2 := hide (heap_alloc_last V1 (.cells (KNo.enc NG).toArray KNo.e))
      have LW2 := hide (below_next LW1.out ((Below.refl V1.heap.size V1).alloc (Nat.le_refl _) (.cells (KNo.enc NG).toArray KNo.e)))
      refine Ek.stepBs1 KNo (by rfl) _ (by rfl) NG (by rw [EC.out]; rfl) ?_
      refine hK1.out _ _ (S7.out _ LW2.out) (fun hH => ?_)
      clear hK1
      change wpAnyH _ _ _ _ _ _ _ (Act.put _ (some 25) _) _
      simp only [Act.put, s0, s1, s2]
      have GS : Hid (w.heap.size ≤ V1.heap.size) := Nat.le_trans D7.out.size LW1.out.size
      have GN : Hid (V1.heap.size ≠ gm) := fun e => by have := OM1.out.lt; omega
      generalize V1.alloc (.cells (KNo.enc NG).toArray KNo.e) = V2 at *
      generalize V1.heap.size = gs at *
      refine wpAnyH_ready (rs := [2]) (by kernel_rfl) (by simp) (AllReadyH.cons rfl (fun K1 hK1 => ?_) AllReadyH.nil)
      obtain ⟨V3, hrun, om, gr⟩ := MP.out V2 gm OM2.out
      have OM3 := hide om
      have GR := hide gr
      have LW3 : Hid (Below W7.heap.size W7 V3) := ⟨GR.out.os.trans LW2.out.os, GR.out.tape.trans LW2.out.tape, GR.out.output.trans LW2.out.output, Nat.le_trans LW2.out.size GR.out.size, fun q hq => (GR.out.block q (Nat.lt_of_lt_of_le hq LW2.out.size) (by intro e; cases e; have := GM7.out; omega)).trans (LW2.out.block q hq)⟩
      have RS3 := hide ((GR.out.block _ (lt_heap RS2.out) (by intro e; cases e; exact GN.out rfl)).trans RS2.out)
      refine step_skip14 (by rfl) (ex_ins _ _ _ _ (by rfl) _ _ _ (by rfl) (by rfl) (by rfl) hrun) ?_
      refine hK1.out _ _ (S7.out _ LW3.out) (fun hH => ?_)
      clear hK1 hrun om gr
      change wpAnyH _ _ _ _ _ _ _ (Act.put _ none _) _
      simp only [Act.put]
      refine wt (i := 3) (v := (.map (some gm))) rfl (yl_move (by rfl) _ (by rfl) _ (by rfl)) hH ?_
      change wpAnyH _ _ _ _ _ _ _ (Act.put _ (some 22) _) _
      simp only [Act.put, s0, s1, s2]
      have LV3 : Hid (Below w.heap.size w V3 ∧ w.heap.size ≤ gm ∧ w.heap.size ≤ gs ∧ gs ≠ gm) := ⟨below_next D7.out LW3.out, GM.out, GS.out, GN.out⟩
      refine wt (i := 7) (v := (.agg (trA gm (.slice (some ⟨gs, 0, none⟩) 1 1) 1 0 0))) rfl (yl_build (by rfl) _ (by rfl) #[(0, .map (some gm)), (1, .slice (some ⟨gs, 0, none⟩) 1 1), (2, .int .i64 1)] _ (by simp only [List.map_toArray, List.map_cons, List.map_nil]; rfl) (bld_tr gm gs)) hH ?_
      change wpAnyH _ _ _ _ _ _ _ (Act.put _ (some 26) _) _
      simp only [Act.put, s0, s1, s2]
      refine wpAnyH_ready (rs := [8]) (by kernel_rfl) (by simp) (AllReadyH.cons rfl (fun K1 hK1 => ?_) AllReadyH.nil)
      have FIN := hide (tm_new (tu := 1) LV3.out.1 OM3.out RS3.out LV3.out.2.1 LV3.out.2.2.1 LV3.out.2.2.2)
      refine step_run14 (by rfl) (ex_box14 _ (by rfl) (trA gm (.slice (some ⟨gs, 0, none⟩) 1 1) 1 0 0) (by rfl)) ?_
      refine hK1.out _ _ (S7.out _ (below_next LW3.out ((Below.refl V3.heap.size V3).alloc (Nat.le_refl _) _))) (fun hH => ?_)
      clear hK1
      change wpAnyH _ _ _ _ _ _ _ (Act.put _ (some 27) _) _
      simp only [Act.put, s0, s1, s2]
      refine wt (i := 9) (v := (.pointer (some ⟨V3.heap.size, 0, none⟩))) rfl (.inl ⟨by rfl, fun W _ => by go_simp⟩) hH ?_
      change wpAnyH _ _ _ _ _ _ _ (Act.put _ (some 0) _) _
      simp only [Act.put, s0, s1, s2]
      refine wpAnyH_done (by kernel_rfl) ?_ _
      go_wp2
      go_ret
      exact ⟨_, _, _, rfl, FIN.out⟩
  · have OM1 : True := trivial
    have RS1 := hide (heap_alloc_last V0 (.cells (KNo.enc NG).toArray KNo.e))
    have LW1 := hide (below_next LW0.out ((Below.refl V0.heap.size V0).alloc (Nat.le_refl _) (.cells (KNo.enc NG).toArray KNo.e)))
    refine Ek.stepBs1 KNo (by rfl) _ (by rfl) NG (by rw [EC.out]; rfl) ?_
    refine hK1.out _ _ (S7.out _ LW1.out) (fun hH => ?_)
    clear hK1
    change wpAnyH _ _ _ _ _ _ _ (Act.put _ (some 25) _) _
    simp only [Act.put, s0, s1, s2]
    have GS : Hid (w.heap.size ≤ V0.heap.size) := Nat.le_trans D7.out.size LW0.out.size
    generalize V0.alloc (.cells (KNo.enc NG).toArray KNo.e) = V1 at *
    generalize V0.heap.size = gs at *
    refine wpAnyH_ready (rs := [0]) (by kernel_rfl) (by simp) (AllReadyH.cons rfl (fun K1 hK1 => ?_) AllReadyH.nil)
    have RS2 := hide ((Below.heap_alloc V1 (.map #[] 0) _ (lt_heap RS1.out)).trans RS1.out)
    have OM2 := hide (World.ownsMap_made (H := Unit) V1 Tryz.prog 46 (plainElem Tryz.prog 3))
    have LW2 := hide (below_next LW1.out ((Below.refl V1.heap.size V1).alloc (Nat.le_refl _) (.map #[] 0)))
    refine step_run14 (by rfl) (ex_mk14 (by rfl)) ?_
    refine hK1.out _ _ (S7.out _ LW2.out) (fun hH => ?_)
    clear hK1
    change wpAnyH _ _ _ _ _ _ _ (Act.put _ (some 20) _) _
    simp only [Act.put, s0, s1, s2]
    have GM7 : Hid (W7.heap.size ≤ V1.heap.size) := LW1.out.size
    have GM : Hid (w.heap.size ≤ V1.heap.size) := Nat.le_trans D7.out.size LW1.out.size
    have GN : Hid (gs ≠ V1.heap.size) := fun e => by have := lt_heap RS1.out; omega
    generalize V1.alloc (.map #[] 0) = V2 at *
    generalize V1.heap.size = gm at *
    refine wpAnyH_ready (rs := [2]) (by kernel_rfl) (by simp) (AllReadyH.cons rfl (fun K1 hK1 => ?_) AllReadyH.nil)
    obtain ⟨V3, hrun, om, gr⟩ := MP.out V2 gm OM2.out
    have OM3 := hide om
    have GR := hide gr
    have LW3 : Hid (Below W7.heap.size W7 V3) := ⟨GR.out.os.trans LW2.out.os, GR.out.tape.trans LW2.out.tape, GR.out.output.trans LW2.out.output, Nat.le_trans LW2.out.size GR.out.size, fun q hq => (GR.out.block q (Nat.lt_of_lt_of_le hq LW2.out.size) (by intro e; cases e; have := GM7.out; omega)).trans (LW2.out.block q hq)⟩
    have RS3 := hide ((GR.out.block _ (lt_heap RS2.out) (by intro e; cases e; exact GN.out rfl)).trans RS2.out)
    refine step_skip14 (by rfl) (ex_ins _ _ _ _ (by rfl) _ _ _ (by rfl) (by rfl) (by rfl) hrun) ?_
    refine hK1.out _ _ (S7.out _ LW3.out) (fun hH => ?_)
    clear hK1 hrun om gr
    change wpAnyH _ _ _ _ _ _ _ (Act.put _ none _) _
    simp only [Act.put]
    refine wt (i := 3) (v := (.map (some gm))) rfl (yl_move (by rfl) _ (by rfl) _ (by rfl)) hH ?_
    change wpAnyH _ _ _ _ _ _ _ (Act.put _ (some 22) _) _
    simp only [Act.put, s0, s1, s2]
    have LV3 : Hid (Below w.heap.size w V3 ∧ w.heap.size ≤ gm ∧ w.heap.size ≤ gs ∧ gs ≠ gm) := ⟨below_next D7.out LW3.out, GM.out, GS.out, GN.out⟩
    refine wt (i := 7) (v := (.agg (trA gm (.slice (some ⟨gs, 0, none⟩) 1 1) 1 0 0))) rfl (yl_build (by rfl) _ (by rfl) #[(0, .map (some gm)), (1, .slice (some ⟨gs, 0, none⟩) 1 1), (2, .int .i64 1)] _ (by simp only [List.map_toArray, List.map_cons, List.map_nil]; rfl) (bld_tr gm gs)) hH ?_
    change wpAnyH _ _ _ _ _ _ _ (Act.put _ (some 26) _) _
    simp only [Act.put, s0, s1, s2]
    refine wpAnyH_ready (rs := [8]) (by kernel_rfl) (by simp) (AllReadyH.cons rfl (fun K1 hK1 => ?_) AllReadyH.nil)
    have FIN := hide (tm_new (tu := 1) LV3.out.1 OM3.out RS3.out LV3.out.2.1 LV3.out.2.2.1 LV3.out.2.2.2)
    refine step_run14 (by rfl) (ex_box14 _ (by rfl) (trA gm (.slice (some ⟨gs, 0, none⟩) 1 1) 1 0 0) (by rfl)) ?_
    refine hK1.out _ _ (S7.out _ (below_next LW3.out ((Below.refl V3.heap.size V3).alloc (Nat.le_refl _) _))) (fun hH => ?_)
    clear hK1
    change wpAnyH _ _ _ _ _ _ _ (Act.put _ (some 27) _) _
    simp only [Act.put, s0, s1, s2]
    refine wt (i := 9) (v := (.pointer (some ⟨V3.heap.size, 0, none⟩))) rfl (.inl ⟨by rfl, fun W _ => by go_simp⟩) hH ?_
    change wpAnyH _ _ _ _ _ _ _ (Act.put _ (some 0) _) _
    simp only [Act.put, s0, s1, s2]
    refine wpAnyH_done (by kernel_rfl) ?_ _
    go_wp2
    go_ret
    exact ⟨_, _, _, rfl, FIN.out⟩
end
end Go.Proofs.YtcoojkpimbddlaaGreatDoor
