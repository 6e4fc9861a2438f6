/- A tree of genesis: New; find, Get, At of what is there: their contracts. -/
import Derived.Test.YtofddbjnncgmlaaGreatDoorX35
import Derived.Test.YtofddbjnncgmlaaGreatDoorX33
import Derived.Test.YtofddbjnncgmlaaGreatDoorX21
namespace Go.Proofs.YtofddbjnncgmlaaGreatDoor
open Go.RowKit
open Go.Deep
open Go.Maps
set_option linter.unusedVariables false
theorem make14 (w : World) : (Instr.makeMap 140 none).run Tryz.prog w = .ok (.map (some w.heap.size)) (w.alloc (.map #[] 0)) := by
  have ht := Tryz.underlying140
  unfold Instr.makeMap
  simp [newObj]
  rfl
theorem ex_ins {a : Act} {o : Oper} {w w1 : World} (t : TypeId) (m x y : Operand) (ho : o.op = .insert t m x y) (vm vx vy : Value) (hm : a.eval m = vm) (hx : a.eval x = vx) (hy : a.eval y = vy) (hr : (Instr.mapUpdate t vm vx vy).run Tryz.prog w = .ok () w1) : (execOp a.eval o).run Tryz.prog w = .ok .skip w1 := by
  unfold execOp
  simp [ho, hm, hx, hy, hr, Result.andThen]
/-- The work of genesis's bits, and its node. -/
def wkG : Nat := (M - 1 - tgt 545259519) / (tgt 545259519 + 1) + 1
def ndG : Tno := ⟨(gH.at 1).id, gH.at 1, 0, 0, wkG, true, true, false, 1, 0, 0, 0, 0, Hd.id_len _⟩
theorem bld_No (i : List UInt8) (hi : i.length = 32) (h : Hd) (k : Nat) (W : World) : (Instr.build 53 #[(0, .agg (hc i)), (1, .agg h.cells.toArray), (4, .agg (wn k)), (5, .bool true), (6, .bool true), (8, .int .i64 1)]).run Tryz.prog W = .ok (.agg (⟨i, h, 0, 0, k, true, true, false, 1, 0, 0, 0, 0, hi⟩ : Tno).pub.toArray) W := by
  obtain ⟨ve, p, r, t, b, o, hp, hr⟩ := h
  obtain ⟨_, _, _, _, _, _, _, _, _, _, _, _, _, _, _, _, _, _, _, _, _, _, _, _, _, _, _, _, _, _, _, _, rfl⟩ := id32' i hi
  obtain ⟨_, _, _, _, _, _, _, _, _, _, _, _, _, _, _, _, _, _, _, _, _, _, _, _, _, _, _, _, _, _, _, _, rfl⟩ := id32' p hp
  obtain ⟨_, _, _, _, _, _, _, _, _, _, _, _, _, _, _, _, _, _, _, _, _, _, _, _, _, _, _, _, _, _, _, _, rfl⟩ := id32' r hr
  kernel_rfl
theorem bld_nd (i : List UInt8) (hi : i.length = 32) (h : Hd) (k : Nat) (W : World) : (Instr.build 142 #[(0, .agg (⟨i, h, 0, 0, k, true, true, false, 1, 0, 0, 0, 0, hi⟩ : Tno).pub.toArray)]).run Tryz.prog W = .ok (.agg (⟨i, h, 0, 0, k, true, true, false, 1, 0, 0, 0, 0, hi⟩ : Tno).cells.toArray) W := by
  obtain ⟨ve, p, r, t, b, o, hp, hr⟩ := h
  obtain ⟨_, _, _, _, _, _, _, _, _, _, _, _, _, _, _, _, _, _, _, _, _, _, _, _, _, _, _, _, _, _, _, _, rfl⟩ := id32' i hi
  obtain ⟨_, _, _, _, _, _, _, _, _, _, _, _, _, _, _, _, _, _, _, _, _, _, _, _, _, _, _, _, _, _, _, _, rfl⟩ := id32' p hp
  obtain ⟨_, _, _, _, _, _, _, _, _, _, _, _, _, _, _, _, _, _, _, _, _, _, _, _, _, _, _, _, _, _, _, _, rfl⟩ := id32' r hr
  kernel_rfl
theorem bld_tr (g g1 : Nat) (W : World) : (Instr.build 145 #[(0, .map (some g)), (1, .slice (some ⟨g1, 0, none⟩) 1 1), (2, .int .i64 1)]).run Tryz.prog W = .ok (.agg (trA g (.slice (some ⟨g1, 0, none⟩) 1 1) 1 0 0)) W := by kernel_rfl
theorem bld_h0 (W : World) : (Instr.build 46 #[]).run Tryz.prog W = .ok (.agg (hc zeros)) W := by kernel_rfl
theorem bld_n0 (W : World) : (Instr.build 53 #[]).run Tryz.prog W = .ok (.agg zTno.pub.toArray) W := by kernel_rfl
theorem fieldBk14 (h : Hd) (v : Value) (W : World) : (Instr.field 93 (.agg (bkA h v)) 0).run Tryz.prog W = .ok (.agg h.cells.toArray) W := by
  obtain ⟨ve, p, r, t, b, o, hp, hr⟩ := h
  obtain ⟨_, _, _, _, _, _, _, _, _, _, _, _, _, _, _, _, _, _, _, _, _, _, _, _, _, _, _, _, _, _, _, _, rfl⟩ := id32' p hp
  obtain ⟨_, _, _, _, _, _, _, _, _, _, _, _, _, _, _, _, _, _, _, _, _, _, _, _, _, _, _, _, _, _, _, _, rfl⟩ := id32' r hr
  kernel_rfl
theorem wpFieldBk14 {w : World} {ops : Array Oper} {rest : List Oper} {o : Oper} {a : Act} {Q : Exit → Act → World → Prop} (x : Operand) (ho : o.op = .field 93 x 0) (h0 : Hd) (v : Value) (hx : a.eval x = .agg (bkA h0 v)) (hw : Region.wanted o (yielded ops a.tmps) = true)
    (h : wpList Tryz.prog ops Q rest (a.put o.dst (.agg h0.cells.toArray)) w) : wpList Tryz.prog ops Q (o :: rest) a w := by
  refine wpList_step fun K hK => ?_
  rw [if_pos hw]
  unfold Oper.wp execOp
  simp only [ho, hx, Sem.run_bind, fieldBk14, Result.andThen_ok, Sem.run_pure]
  exact hK _ _ h
section
set_option maxRecDepth 10000
set_option maxHeartbeats 4000000
theorem findT_nil (l : List UInt8) (hl : l.length = 32) (w : World) : Calls Tryz.prog 78 #[.pointer none, .agg (hc l)] w fun e w' => e = .returned (.tuple #[.int .i64 0, .bool false]) ∧ Below w.heap.size w w' := by
  have B1 := hide ((Below.refl w.heap.size w).alloc (Nat.le_refl _) (.cells (hc l) 46))
  generalize hc l = C at *
  go_enter Tryz.func78, Tryz.ntmps78
  go_upto_region 1 with ((with_reducible refine at_list ?_); refine wpList_boxA rfl _ rfl C rfl ?_)
  generalize w.alloc (.cells C 46) = W0 at *
  go_wp2
  go_ret2
  exact ⟨rfl, B1.out⟩
theorem findT_any {B w : World} {gt gm n : Nat} {D : DataW Unit} {ve : Value} {L : List Tno} {tu be bh : Nat} (h : Tm4 B w gt gm n D ve L tu be bh) (l : List UInt8) (hl : l.length = 32) (c : Int) (hat : D.atKey (.string l) (.lit (.int .i64 0)) = .lit (.int .i64 c)) : Calls Tryz.prog 78 #[.pointer (some ⟨gt, 0, none⟩), .agg (hc l)] w fun e w' => e = .returned (.tuple #[.int .i64 c, .bool (Maps.has D (.string l))]) ∧ Below w.heap.size w w' := by
  have R3 := hide (heap_alloc_last w (.cells (hc l) 46))
  have b1 := (Below.refl w.heap.size w).alloc (Nat.le_refl _) (.cells (hc l) 46)
  have B1 := hide b1
  have X1 := hide (h.next b1)
  have LK : Hid (∀ W, Tm4 B W gt gm n D ve L tu be bh → (Instr.lookup 140 (.map (some gm)) (.agg (hc l)) true).run Tryz.prog W = .ok (.tuple #[.int .i64 c, .bool (Maps.has D (.string l))]) W) := fun W x => look14 x.map l hl c hat
  have CZ : Hid ((hc l).size = 32) := by show _ = _; rw [hc_size, hl]
  clear b1 hat h
  generalize Maps.has D (.string l) = hs at *
  generalize hc l = C at *
  go_enter Tryz.func78, Tryz.ntmps78
  go_upto_region 1 with ((with_reducible refine at_list ?_); refine wpList_boxA rfl _ rfl C rfl ?_)
  generalize w.alloc (.cells C 46) = W0 at *
  go_upto_region 3 with fail
  have DV1 := hide ((Below.refl W0.heap.size W0).drew)
  refine wp_region_held_drew (S := fun W => Below W0.heap.size W0 W) (by kernel_rfl) DV1.out (fun hH => ?_)
  generalize hWd : W0.drew = V1 at *
  clear hWd
  refine wpAnyH_take (i := 0) (v := (.pointer (some ⟨gt, 0, none⟩))) rfl (by kernel_rfl) (by kernel_rfl) (by kernel_rfl) (fun _ _ _ h => h) (yl_move (by rfl) _ (by rfl) _ (by rfl)) hH ?_
  change wpAnyH _ _ _ _ _ _ _ (Act.put _ (some 11) _) _
  simp only [Act.put, List.setIfInBounds_toArray, List.set_cons_zero, List.set_cons_succ]
  refine wpAnyH_take (i := 1) (v := (.pointer (some ⟨gt, 0, none⟩))) rfl (by kernel_rfl) (by kernel_rfl) (by kernel_rfl) (fun _ _ _ h => h) (.inl ⟨by rfl, fun W _ => by go_simp⟩) hH ?_
  change wpAnyH _ _ _ _ _ _ _ (Act.put _ (some 12) _) _
  simp only [Act.put, List.setIfInBounds_toArray, List.set_cons_zero, List.set_cons_succ]
  refine wpAnyH_take (i := 2) (v := (.pointer (some ⟨gt, 0, none⟩))) rfl (by kernel_rfl) (by kernel_rfl) (by kernel_rfl) (fun _ _ _ h => h) (.inl ⟨by rfl, fun W _ => by go_simp⟩) hH ?_
  change wpAnyH _ _ _ _ _ _ _ (Act.put _ (some 13) _) _
  simp only [Act.put, List.setIfInBounds_toArray, List.set_cons_zero, List.set_cons_succ]
  refine wpAnyH_take (i := 3) (v := (.map (some gm))) rfl (by kernel_rfl) (by kernel_rfl) (by kernel_rfl) (fun _ _ _ h => h) (.inl ⟨by rfl, fun W hS => by have c4 := (X1.out.next hS).cells.1; go_simp⟩) hH ?_
  change wpAnyH _ _ _ _ _ _ _ (Act.put _ (some 14) _) _
  simp only [Act.put, List.setIfInBounds_toArray, List.set_cons_zero, List.set_cons_succ]
  refine wpAnyH_take (i := 4) (v := (.agg C)) rfl (by kernel_rfl) (by kernel_rfl) (by kernel_rfl) (fun _ _ _ h => h) (yl_load (by rfl) _ (by rfl) _ C (by rfl) (fun W hS => ld_row A25 CZ.out ((hS.block _ (lt_heap R3.out)).trans R3.out))) hH ?_
  change wpAnyH _ _ _ _ _ _ _ (Act.put _ (some 15) _) _
  simp only [Act.put, List.setIfInBounds_toArray, List.set_cons_zero, List.set_cons_succ]
  refine wpAnyH_take (i := 5) (v := (.tuple #[.int .i64 c, .bool hs])) rfl (by kernel_rfl) (by kernel_rfl) (by kernel_rfl) (fun _ _ _ h => h) (yl_look14 (by rfl) _ _ _ (by rfl) _ _ (by rfl) (by rfl) _ (fun W hS => LK.out W (X1.out.next hS))) hH ?_
  change wpAnyH _ _ _ _ _ _ _ (Act.put _ (some 16) _) _
  simp only [Act.put, List.setIfInBounds_toArray, List.set_cons_zero, List.set_cons_succ]
  refine wpAnyH_take (i := 6) (v := (.tuple #[.int .i64 c, .bool hs])) rfl (by kernel_rfl) (by kernel_rfl) (by kernel_rfl) (fun _ _ _ h => h) (yl_move (by rfl) _ (by rfl) _ (by rfl)) hH ?_
  change wpAnyH _ _ _ _ _ _ _ (Act.put _ (some 10) _) _
  simp only [Act.put, List.setIfInBounds_toArray, List.set_cons_zero, List.set_cons_succ]
  refine wpAnyH_take (i := 7) (v := (.int .i64 c)) rfl (by kernel_rfl) (by kernel_rfl) (by kernel_rfl) (fun _ _ _ h => h) (.inl ⟨by rfl, fun W _ => by go_simp⟩) hH ?_
  change wpAnyH _ _ _ _ _ _ _ (Act.put _ (some 17) _) _
  simp only [Act.put, List.setIfInBounds_toArray, List.set_cons_zero, List.set_cons_succ]
  refine wpAnyH_take (i := 8) (v := (.bool hs)) rfl (by kernel_rfl) (by kernel_rfl) (by kernel_rfl) (fun _ _ _ h => h) (.inl ⟨by rfl, fun W _ => by go_simp⟩) hH ?_
  change wpAnyH _ _ _ _ _ _ _ (Act.put _ (some 18) _) _
  simp only [Act.put, List.setIfInBounds_toArray, List.set_cons_zero, List.set_cons_succ]
  refine wpAnyH_take (i := 9) (v := (.int .i64 c)) rfl (by kernel_rfl) (by kernel_rfl) (by kernel_rfl) (fun _ _ _ h => h) (.inl ⟨by rfl, fun W _ => by go_simp⟩) hH ?_
  change wpAnyH _ _ _ _ _ _ _ (Act.put _ (some 6) _) _
  simp only [Act.put, List.setIfInBounds_toArray, List.set_cons_zero, List.set_cons_succ]
  refine wpAnyH_take (i := 10) (v := (.bool hs)) rfl (by kernel_rfl) (by kernel_rfl) (by kernel_rfl) (fun _ _ _ h => h) (.inl ⟨by rfl, fun W _ => by go_simp⟩) hH ?_
  change wpAnyH _ _ _ _ _ _ _ (Act.put _ (some 7) _) _
  simp only [Act.put, List.setIfInBounds_toArray, List.set_cons_zero, List.set_cons_succ]
  refine wpAnyH_done (by kernel_rfl) ?_ _
  clear hH
  go_wp2
  go_ret2
  exact ⟨rfl, below_next B1.out DV1.out⟩
theorem getT_nil (l : List UInt8) (hl : l.length = 32) (w : World) : Calls Tryz.prog 17 #[.pointer none, .agg (hc l)] w fun e w' => e = .returned (.tuple #[.agg zTno.pub.toArray, .bool false]) ∧ Below w.heap.size w w' := by
  have s1 : (w.alloc (.cells (hc l) 46)).heap.size = w.heap.size + 1 := by simp
  have R3 := hide ((Below.heap_alloc _ (.cells zTno.pub.toArray 53) _ (lt_heap (heap_alloc_last w (.cells (hc l) 46)))).trans (heap_alloc_last w (.cells (hc l) 46)))
  have R4 := hide (heap_alloc_last (w.alloc (.cells (hc l) 46)) (.cells zTno.pub.toArray 53))
  have B1 := hide (((Below.refl w.heap.size w).alloc (Nat.le_refl _) (.cells (hc l) 46)).alloc (by rw [s1]; omega) (.cells zTno.pub.toArray 53))
  have CZ : Hid ((hc l).size = 32) := by show _ = _; rw [hc_size, hl]
  have HF := hide (fun W => findT_nil l hl W)
  have ZZ := hide (And.intro zTno.pubA_size zTno.pubA_all)
  rw [s1] at R4
  generalize hc l = C at *
  go_enter Tryz.func17, Tryz.ntmps17
  go_upto_region 1 with ((with_reducible refine at_list ?_); first | refine wpList_boxA rfl _ rfl C rfl ?_ | refine wpList_allocA ANo rfl rfl ?_)
  try rw [s1]
  clear s1
  generalize (w.alloc (.cells C 46)).alloc (.cells zTno.pub.toArray 53) = W0 at *
  go_upto_region 2 with (first | (go_at_call 78; refine (HF.out _).mono ?_; rintro e W1 ⟨rfl, be⟩; have D1 := hide be; clear be) | ((with_reducible refine at_list ?_); refine wpList_loadS A25 _ rfl w.heap.size rfl C CZ.out 46 R3.out (by rfl) ?_))
  have R5 := hide ((D1.out.block _ (lt_heap R4.out)).trans R4.out)
  go_wp2_with ((with_reducible refine at_list ?_); first | refine wpList_bldX rfl _ rfl #[] zTno.pub.toArray (by rfl) (BN.out)  ?_ | refine wpList_storeA ANo rfl _ _ rfl (w.heap.size + 1) zTno.pub.toArray ZZ.out.1 ZZ.out.2 rfl rfl zTno.pub.toArray ZZ.out.1 53 R5.out ?_)
  exact bodyPost_ret (v := .tuple #[.agg zTno.pub.toArray, .bool false]) (resA2K ANo Tryz.results17 _ _ (w.heap.size + 1) 53 _ ZZ.out.1 rfl (setRow_heap _ _ _ _ _ _ R5.out) _ rfl) rfl ⟨rfl, below_setRow (below_next B1.out D1.out) (by omega) _⟩
theorem getT_yes {B w : World} {gt gm n : Nat} {D : DataW Unit} {ve : Value} {L : List Tno} {tu be bh : Nat} (h : Tm4 B w gt gm n D ve L tu be bh) (l : List UInt8) (hl : l.length = 32) (k : Nat) (hk : k < L.length) (hm : L.length ≤ 1000000) (hat : D.atKey (.string l) (.lit (.int .i64 0)) = .lit (.int .i64 (k : Int))) (hh : Maps.has D (.string l) = true) : Calls Tryz.prog 17 #[.pointer (some ⟨gt, 0, none⟩), .agg (hc l)] w fun e w' => e = .returned (.tuple #[.agg L[k].pub.toArray, .bool true]) ∧ Below w.heap.size w w' := by
  have s1 : (w.alloc (.cells (hc l) 46)).heap.size = w.heap.size + 1 := by simp
  have R3 := hide ((Below.heap_alloc _ (.cells zTno.pub.toArray 53) _ (lt_heap (heap_alloc_last w (.cells (hc l) 46)))).trans (heap_alloc_last w (.cells (hc l) 46)))
  have R4 := hide (heap_alloc_last (w.alloc (.cells (hc l) 46)) (.cells zTno.pub.toArray 53))
  have b1 := ((Below.refl w.heap.size w).alloc (Nat.le_refl _) (.cells (hc l) 46)).alloc (by rw [s1]; omega) (.cells zTno.pub.toArray 53)
  have B1 := hide b1
  have X1 := hide (h.next b1)
  obtain ⟨ao, cap, rfl⟩ := h.own.form
  obtain ⟨ge, oe, rfl⟩ := h.own.read.base (by omega)
  have HF : Hid (∀ W, Tm4 B W gt gm n D (.slice (some ⟨ge, oe, none⟩) L.length cap) L tu be bh → Calls Tryz.prog 78 #[.pointer (some ⟨gt, 0, none⟩), .agg (hc l)] W fun e w' => e = .returned (.tuple #[.int .i64 (k : Int), .bool true]) ∧ Below W.heap.size W w') := fun W x => by
    have := findT_any x l hl k hat
    rw [hh] at this
    exact this
  have LD : Hid (∀ W, Tm4 B W gt gm n D (.slice (some ⟨ge, oe, none⟩) L.length cap) L tu be bh → W.rangeAt ge (oe + k * 114) L[k].pub) := fun W x => L[k].rpub (x.own.read.range k hk)
  have CZ : Hid ((hc l).size = 32) := by show _ = _; rw [hc_size, hl]
  have h1 : (k : Int) < (L.length : Int) := by omega
  have h2 : (0 : Int) ≤ (k : Int) := by omega
  have EZ := hide (And.intro L[k].pubA_size L[k].pubA_all)
  have ZZ := hide zTno.pubA_size
  rw [s1] at R4
  clear b1 hat hh h hm
  generalize hc l = C at *
  generalize L[k] = X at *
  clear hk
  go_enter Tryz.func17, Tryz.ntmps17
  go_upto_region 1 with ((with_reducible refine at_list ?_); first | refine wpList_boxA rfl _ rfl C rfl ?_ | refine wpList_allocA ANo rfl rfl ?_)
  try rw [s1]
  clear s1
  generalize (w.alloc (.cells C 46)).alloc (.cells zTno.pub.toArray 53) = W0 at *
  go_upto_region 2 with (first | (go_at_call 78; refine (HF.out _ X1.out).mono ?_; rintro e W1 ⟨rfl, be⟩; have D1 := hide be; clear be) | ((with_reducible refine at_list ?_); refine wpList_loadS A25 _ rfl w.heap.size rfl C CZ.out 46 R3.out (by rfl) ?_))
  have R5 := hide ((D1.out.block _ (lt_heap R4.out)).trans R4.out)
  have X2 := hide (X1.out.next D1.out)
  have c1 := X2.out.cells.2.1
  have RG := hide (LD.out _ X2.out)
  go_wp2_with ((with_reducible refine at_list ?_); first | refine wpLoadNo _ rfl ge (oe + k * 114) rfl X RG.out (by rfl) ?_ | refine wpList_storeA ANo rfl _ _ rfl (w.heap.size + 1) X.pub.toArray EZ.out.1 EZ.out.2 rfl rfl zTno.pub.toArray ZZ.out 53 R5.out ?_)
  exact bodyPost_ret (v := .tuple #[.agg X.pub.toArray, .bool true]) (resA2K ANo Tryz.results17 _ _ (w.heap.size + 1) 53 _ EZ.out.1 rfl (setRow_heap _ _ _ _ _ _ R5.out) _ rfl) rfl ⟨rfl, below_setRow (below_next B1.out D1.out) (by omega) _⟩
end
end Go.Proofs.YtofddbjnncgmlaaGreatDoor
