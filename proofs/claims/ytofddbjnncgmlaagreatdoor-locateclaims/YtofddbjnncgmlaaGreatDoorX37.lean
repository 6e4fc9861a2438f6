/- A tree of genesis: New: its contract. -/
import Derived.Test.YtofddbjnncgmlaaGreatDoorX36
namespace Go.Proofs.YtofddbjnncgmlaaGreatDoor
open Go.RowKit
open Go.Deep
open Go.Maps
set_option linter.unusedVariables false
set_option linter.unusedSimpArgs false
section
variable {w w1 : World} {ops : Array Oper} {rest : List Oper} {o : Oper} {a : Act} {K : Act → World → Prop} {Q : Exit → Act → World → Prop} {E0 : Prop}
theorem step_run14 (hgd : o.guard = none) {v : Value} (hr : (execOp a.eval o).run Tryz.prog w = .ok (.value v) w1) (hk : K (a.put o.dst v) w1) : if Region.wanted o (yielded ops a.tmps) = true then Oper.wp Tryz.prog o a w K Q else E0 := by
  have hw : Region.wanted o (yielded ops a.tmps) = true := by simp [Region.wanted, hgd]
  rw [if_pos hw]
  unfold Oper.wp
  rw [hr]
  exact hk
theorem step_skip14 (hgd : o.guard = none) (hr : (execOp a.eval o).run Tryz.prog w = .ok .skip w1) (hk : K (a.put o.dst undef) w1) : if Region.wanted o (yielded ops a.tmps) = true then Oper.wp Tryz.prog o a w K Q else E0 := by
  have hw : Region.wanted o (yielded ops a.tmps) = true := by simp [Region.wanted, hgd]
  rw [if_pos hw]
  unfold Oper.wp
  rw [hr]
  exact hk
end
theorem ex_mk14 {a : Act} {o : Oper} {w : World} (ho : o.op = .makeMap 140 none) : (execOp a.eval o).run Tryz.prog w = .ok (.value (.map (some w.heap.size))) (w.alloc (.map #[] 0)) := by
  unfold execOp
  simp only [ho, Option.map_none, make14, Sem.run_bind, Result.andThen_ok, Sem.run_pure]
theorem OX.of_one {α : Type} (E : Ek α) {W : World} {g : Nat} {x : α} (h : W.heap[g]? = some (.cells (E.enc x).toArray E.e (0, 0))) : OX E W (.slice (some ⟨g, 0, none⟩) 1 1) [x] := by
  have e : flatE E [x] = E.enc x := by rw [flatE_cons, flatE_nil, List.append_nil]
  refine ⟨by rw [e, E.len]; simp, .inr ⟨g, 1, (E.enc x).toArray, rfl, Nat.zero_le _, h, Nat.le_refl _, by unfold maxLen; omega, by rw [List.size_toArray, E.len, Nat.one_mul], ?_⟩⟩
  rw [e]
  exact List.take_of_length_le (by rw [E.len]; simp)
theorem OmI.alloc {W : World} {b n : Nat} {D : DataW Unit} (h : OmI W b n D) (o : Obj) : OmI (W.alloc o) b n D := h.of_block (Below.heap_alloc _ _ _ h.lt)
/-- What New has made, when all of it is made but the tree's own block. -/
theorem tm_new {B W : World} {gm gs tu : Nat} {D : DataW Unit} {n : Nat} {x : Tno} (bel : Below B.heap.size B W) (hm : OmI W gm n D) (hs : W.heap[gs]? = some (.cells (KNo.enc x).toArray KNo.e (0, 0))) (h1 : B.heap.size ≤ gm) (h2 : B.heap.size ≤ gs) (h3 : gs ≠ gm) : Tm4 B (W.alloc (.cells (trA gm (.slice (some ⟨gs, 0, none⟩) 1 1) tu 0 0) 145)) W.heap.size gm n D (.slice (some ⟨gs, 0, none⟩) 1 1) [x] tu 0 0 := by
  have l1 := hm.lt
  have l2 := lt_heap hs
  have l0 := bel.size
  refine ⟨heap_alloc_last W _, hm.alloc _, OX.of_one KNo ((Below.heap_alloc _ _ _ l2).trans hs), bel.alloc l0 _, l0, h1, by omega, fun g hg => ?_⟩
  have e : g = gs := by
    simp only [Value.ownBlock, Option.some.injEq] at hg
    exact hg.symm
  subst e
  exact ⟨h2, by omega, h3⟩
theorem ex_box14 {a : Act} {o : Oper} {w : World} {t : TypeId} (x : Operand) (ho : o.op = .box t x) (c : Array Value) (hx : a.eval x = .agg c) : (execOp a.eval o).run Tryz.prog w = .ok (.value (.pointer (some ⟨w.heap.size, 0, none⟩))) (w.alloc (.cells c t)) := by
  unfold execOp
  simp only [ho, hx, run_boxA, Sem.run_bind, Result.andThen_ok, Sem.run_pure]
section
set_option maxRecDepth 10000
set_option maxHeartbeats 4000000
theorem newT_any (w : World) (hK : Kg w) : Calls Tryz.prog 9 #[] w fun e w' => ∃ gt gm ve, e = .returned (.pointer (some ⟨gt, 0, none⟩)) ∧ Tm4 w w' gt gm 1 ((DataW.map []).put (.string (gH.at 1).id) (.lit (.int .i64 0))) ve [ndG] 1 0 0 := by
  have HG : Hid (∀ W, Kg W → Calls Tryz.prog 53 #[] W fun e w' => ∃ ao cap, e = .returned (.agg (bkA (gH.at 1) (.slice ao 1 cap))) ∧ Below W.heap.size W w') := fun W q => (genesis_any W q).mono (by rintro e w' ⟨ao, cap, y, rfl, _, _, be⟩; exact ⟨ao, cap, rfl, be⟩)
  have HI : Hid (∀ W, Kg W → Calls Tryz.prog 20 #[.agg (gH.at 1).cells.toArray] W fun e w' => e = .returned (.agg (hc (gH.at 1).id)) ∧ Below W.heap.size W w') := fun W q => hid_any (gH.at 1) W q
  have HW : Hid (∀ W, Calls Tryz.prog 54 #[.int .u32 545259519] W fun e w' => e = .returned (.tuple #[.agg (wn wkG), .int .i64 0]) ∧ Below W.heap.size W w') := fun W => work_yes 545259519 (by omega) (by decide +kernel) W
  have KS : Hid (∀ W, Below w.heap.size w W → Kg W) := fun W b => hK.next b
  have HZ := hide (And.intro (show (gH.at 1).cells.toArray.size = 68 by rw [List.size_toArray, Hd.len]) (gH.at 1).all)
  have IZ := hide (And.intro (show (hc (gH.at 1).id).size = 32 by rw [hc_size, Hd.id_len]) (hc_one (gH.at 1).id))
  have WZ := hide (And.intro (wn_size wkG) (wn_one wkG))
  have NZ := hide (And.intro ndG.pubA_size ndG.pubA_all)
  have CB : Hid (∀ (W : World) (g : Nat), W.heap[g]? = some (.cells (gH.at 1).cells.toArray 48 (0, 0)) → W.cell? ⟨g, 66, none⟩ = some (.int .u32 545259519)) := fun W g e => by
    have q1 := (gH.at 1).bits0 (rowAt _ e)
    rw [Nat.zero_add] at q1
    exact q1
  have BP : Hid (∀ W, (Instr.build 53 #[(0, .agg (hc (gH.at 1).id)), (1, .agg (gH.at 1).cells.toArray), (4, .agg (wn wkG)), (5, .bool true), (6, .bool true), (8, .int .i64 1)]).run Tryz.prog W = .ok (.agg ndG.pub.toArray) W) := fun W => bld_No _ (Hd.id_len _) (gH.at 1) wkG W
  have BN : Hid (∀ W, (Instr.build 142 #[(0, .agg ndG.pub.toArray)]).run Tryz.prog W = .ok (.agg ndG.cells.toArray) W) := fun W => bld_nd _ (Hd.id_len _) (gH.at 1) wkG W
  have MP : Hid (∀ (W : World) (g : Nat), OmI W g 0 (.map []) → ∃ W', (Instr.mapUpdate 140 (.map (some g)) (.agg (hc (gH.at 1).id)) (.int .i64 0)).run Tryz.prog W = .ok () W' ∧ OmI W' g 1 ((DataW.map []).put (.string (gH.at 1).id) (.lit (.int .i64 0))) ∧ W.grownBy W' (some g)) := fun W g q => by
    obtain ⟨W', hr, ho, hg⟩ := q.store (val := .int .i64 0) (d := .lit (.int .i64 0)) (ps := []) lawH14 Tryz.underlying140 (by unfold maxLen; omega) (keyH14 _ (Hd.id_len _)) (plainElem_int Tryz.underlying3 (by decide))
    exact ⟨W', hr, ho, hg.grown⟩
  have EC : Hid ((KNo.enc ndG).toArray = ndG.cells.toArray) := rfl
  clear hK
  generalize (DataW.map []).put (.string (gH.at 1).id) (.lit (.int .i64 0)) = DD at *
  generalize wkG = WK at *
  generalize ndG = NG at *
  generalize hPP : NG.pub.toArray = PP at *
  generalize hCC : NG.cells.toArray = CC at *
  have HCC := hide hCC
  clear hPP hCC
  generalize gH.at 1 = HH at *
  generalize hc HH.id = ID at *
  go_enter Tryz.func9, Tryz.ntmps9
  go_upto_region 2 with (first | (go_at_call 53; refine (HG.out _ (KS.out _ (Below.refl _ _))).mono ?_; rintro e W1 ⟨ao, cap, rfl, be⟩; have D1 := hide be; clear be) | ((with_reducible refine at_list ?_); first | refine wpFieldBk14 _ rfl HH (.slice ao 1 cap) rfl (by rfl) ?_ | refine wpList_allocA AHd rfl rfl ?_ | refine wpList_store_newA AHd rfl _ _ rfl _ rfl HH.cells.toArray HZ.out.1 HZ.out.2 rfl rfl ?_))
  have b2 := (Below.refl W1.heap.size W1).alloc (Nat.le_refl _) (.cells HH.cells.toArray 48)
  have D2 := hide (below_next D1.out b2)
  have R2 := hide (heap_alloc_last W1 (.cells HH.cells.toArray 48))
  clear b2 D1 HG
  generalize W1.alloc (.cells HH.cells.toArray 48) = W2 at *
  generalize W1.heap.size = g1 at *
  go_upto_region 3 with (first | (go_at_call 20; refine (HI.out _ (KS.out _ D2.out)).mono ?_; rintro e W3 ⟨rfl, be⟩; have D3 := hide (below_next D2.out be); have R3 := hide ((be.block _ (lt_heap R2.out)).trans R2.out); clear be) | ((with_reducible refine at_list ?_); first | refine wpList_loadS AHd _ rfl g1 rfl HH.cells.toArray HZ.out.1 48 R2.out (by rfl) ?_ | refine wpList_allocA A25 rfl rfl ?_ | refine wpList_store_newA A25 rfl _ _ rfl _ rfl ID IZ.out.1 IZ.out.2 rfl rfl ?_))
  have b4 := (Below.refl W3.heap.size W3).alloc (Nat.le_refl _) (.cells ID 46)
  have D4 := hide (below_next D3.out b4)
  have R4 := hide (heap_alloc_last W3 (.cells ID 46))
  have R4h := hide ((b4.block _ (lt_heap R3.out)).trans R3.out)
  clear b4 D3 D2 R3 R2 HI
  generalize W3.alloc (.cells ID 46) = W4 at *
  generalize W3.heap.size = g2 at *
  have c4 := CB.out _ _ R4h.out
  go_upto_region 4 with (first | (go_at_call 54; refine (HW.out _).mono ?_; rintro e W5 ⟨rfl, be⟩; have B5 := hide be; clear be) | ((with_reducible refine at_list ?_); first | refine wpList_allocA AW rfl rfl ?_ | refine wpList_store_newA AW rfl _ _ rfl _ rfl (wn WK) WZ.out.1 WZ.out.2 rfl rfl ?_))
  have b6 := (Below.refl W5.heap.size W5).alloc (Nat.le_refl _) (.cells (wn WK) 51)
  have B6 := hide (below_next B5.out b6)
  have D6 := hide (below_next D4.out B6.out)
  have R6 := hide (heap_alloc_last W5 (.cells (wn WK) 51))
  have R6i := hide ((B6.out.block _ (lt_heap R4.out)).trans R4.out)
  have R6h := hide ((B6.out.block _ (lt_heap R4h.out)).trans R4h.out)
  clear b6 c4 B5 B6 D4 R4 R4h CB HW
  generalize W5.alloc (.cells (wn WK) 51) = W6 at *
  generalize W5.heap.size = g3 at *
  have bp := BP.out
  go_upto_region 5 with ((with_reducible refine at_list ?_); first | refine wpList_loadS A25 _ rfl g2 rfl ID IZ.out.1 46 R6i.out (by rfl) ?_ | refine wpList_loadS AHd _ rfl g1 rfl HH.cells.toArray HZ.out.1 48 R6h.out (by rfl) ?_ | refine wpList_loadS AW _ rfl g3 rfl (wn WK) WZ.out.1 51 R6.out (by rfl) ?_ | refine wpList_bldX rfl _ rfl #[(0, .agg ID), (1, .agg HH.cells.toArray), (4, .agg (wn WK)), (5, .bool true), (6, .bool true), (8, .int .i64 1)] PP (by simp only [List.map_toArray, List.map_cons, List.map_nil]; rfl) BP.out ?_ | refine wpList_allocA ANo rfl rfl ?_ | refine wpList_store_newA ANo rfl _ _ rfl _ rfl PP NZ.out.1 NZ.out.2 rfl rfl ?_)
  have b7 := (Below.refl W6.heap.size W6).alloc (Nat.le_refl _) (.cells PP 53)
  have D7 := hide (below_next D6.out b7)
  have R7 := hide (heap_alloc_last W6 (.cells PP 53))
  have R7i := hide ((b7.block _ (lt_heap R6i.out)).trans R6i.out)
  clear b7 bp D6 R6 R6i R6h BP
  generalize W6.alloc (.cells PP 53) = W7 at *
  generalize W6.heap.size = g4 at *
  have S7 : Hid (∀ W, Below W7.heap.size W7 W → W.heap[g2]? = some (.cells ID 46 (0, 0)) ∧ W.heap[g4]? = some (.cells PP 53 (0, 0))) := fun W b => ⟨(b.block _ (lt_heap R7i.out)).trans R7i.out, (b.block _ (lt_heap R7.out)).trans R7.out⟩
  have L7 := hide (Below.refl W7.heap.size W7).drew
  refine wp_region_held_drew (S := fun W => W.heap[g2]? = some (.cells ID 46 (0, 0)) ∧ W.heap[g4]? = some (.cells PP 53 (0, 0))) (by kernel_rfl) (S7.out _ L7.out) (fun hH => ?_)
  generalize W7.drew = V0 at *
  refine wpAnyH_take (i := 1) (v := (.agg ID)) rfl (by kernel_rfl) (by kernel_rfl) (by kernel_rfl) (fun _ _ _ h => h) (yl_load (by rfl) _ (by rfl) _ ID (by rfl) (fun W hS => ld_row A25 IZ.out.1 hS.1)) hH ?_
  change wpAnyH _ _ _ _ _ _ _ (Act.put _ (some 21) _) _
  simp only [Act.put, List.setIfInBounds_toArray, List.set_cons_zero, List.set_cons_succ]
  refine wpAnyH_take (i := 4) (v := (.agg PP)) rfl (by kernel_rfl) (by kernel_rfl) (by kernel_rfl) (fun _ _ _ h => h) (yl_load (by rfl) _ (by rfl) _ PP (by rfl) (fun W hS => ld_row ANo NZ.out.1 hS.2)) hH ?_
  change wpAnyH _ _ _ _ _ _ _ (Act.put _ (some 23) _) _
  simp only [Act.put, List.setIfInBounds_toArray, List.set_cons_zero, List.set_cons_succ]
  refine wpAnyH_take (i := 5) (v := (.agg CC)) rfl (by kernel_rfl) (by kernel_rfl) (by kernel_rfl) (fun _ _ _ h => h) (yl_build (by rfl) _ (by rfl) #[(0, .agg PP)] CC (by simp only [List.map_toArray, List.map_cons, List.map_nil]; rfl) BN.out) hH ?_
  change wpAnyH _ _ _ _ _ _ _ (Act.put _ (some 24) _) _
  simp only [Act.put, List.setIfInBounds_toArray, List.set_cons_zero, List.set_cons_succ]
  have LW0 := hide L7.out
  have OM0 : True := trivial
  have RS0 : True := trivial
  clear L7
  refine wpAnyH_ready (rs := [0, 6]) (by kernel_rfl) (by simp) (AllReadyH.cons rfl (fun K1 hK1 => ?_) (AllReadyH.cons rfl (fun K1 hK1 => ?_) AllReadyH.nil))
  · have RS1 : True := trivial
    have OM1 := hide (World.ownsMap_made (H := Unit) V0 Tryz.prog 46 (plainElem Tryz.prog 3))
    have LW1 := hide (below_next LW0.out ((Below.refl V0.heap.size V0).alloc (Nat.le_refl _) (.map #[] 0)))
    refine step_run14 (by rfl) (ex_mk14 (by rfl)) ?_
    refine hK1.out _ _ (S7.out _ LW1.out) (fun hH => ?_)
    clear hK1
    change wpAnyH _ _ _ _ _ _ _ (Act.put _ (some 20) _) _
    simp only [Act.put, List.setIfInBounds_toArray, List.set_cons_zero, List.set_cons_succ]
    have GM7 : Hid (W7.heap.size ≤ V0.heap.size) := LW0.out.size
    have GM : Hid (w.heap.size ≤ V0.heap.size) := Nat.le_trans D7.out.size LW0.out.size
    generalize V0.alloc (.map #[] 0) = V1 at *
    generalize V0.heap.size = gm at *
    refine wpAnyH_ready (rs := [2, 6]) (by kernel_rfl) (by simp) (AllReadyH.cons rfl (fun K1 hK1 => ?_) (AllReadyH.cons rfl (fun K1 hK1 => ?_) AllReadyH.nil))
    · obtain ⟨V2, hrun, om, gr⟩ := MP.out V1 gm OM1.out
      have OM2 := hide om
      have GR := hide gr
      have LW2 : Hid (Below W7.heap.size W7 V2) := ⟨GR.out.os.trans LW1.out.os, GR.out.tape.trans LW1.out.tape, GR.out.output.trans LW1.out.output, Nat.le_trans LW1.out.size GR.out.size, fun q hq => (GR.out.block q (Nat.lt_of_lt_of_le hq LW1.out.size) (by intro e; cases e; have := GM7.out; omega)).trans (LW1.out.block q hq)⟩
      have RS2 : True := trivial
      refine step_skip14 (by rfl) (ex_ins _ _ _ _ (by rfl) _ _ _ (by rfl) (by rfl) (by rfl) hrun) ?_
      refine hK1.out _ _ (S7.out _ LW2.out) (fun hH => ?_)
      clear hK1 hrun om gr
      change wpAnyH _ _ _ _ _ _ _ (Act.put _ none _) _
      simp only [Act.put]
      refine wpAnyH_take (i := 3) (v := (.map (some gm))) rfl (by kernel_rfl) (by kernel_rfl) (by kernel_rfl) (fun _ _ _ h => h) (yl_move (by rfl) _ (by rfl) _ (by rfl)) hH ?_
      change wpAnyH _ _ _ _ _ _ _ (Act.put _ (some 22) _) _
      simp only [Act.put, List.setIfInBounds_toArray, List.set_cons_zero, List.set_cons_succ]
      refine wpAnyH_ready (rs := [6]) (by kernel_rfl) (by simp) (AllReadyH.cons rfl (fun K1 hK1 => ?_) AllReadyH.nil)
      have OM3 := hide (OM2.out.alloc (.cells (KNo.enc NG).toArray KNo.e))
      have RS3 := hide (heap_alloc_last V2 (.cells (KNo.enc NG).toArray KNo.e))
      have LW3 := hide (below_next LW2.out ((Below.refl V2.heap.size V2).alloc (Nat.le_refl _) (.cells (KNo.enc NG).toArray KNo.e)))
      refine Ek.stepBs1 KNo (by rfl) _ (by rfl) NG (by rw [EC.out]; rfl) ?_
      refine hK1.out _ _ (S7.out _ LW3.out) (fun hH => ?_)
      clear hK1
      change wpAnyH _ _ _ _ _ _ _ (Act.put _ (some 25) _) _
      simp only [Act.put, List.setIfInBounds_toArray, List.set_cons_zero, List.set_cons_succ]
      have GS : Hid (w.heap.size ≤ V2.heap.size) := Nat.le_trans D7.out.size LW2.out.size
      have GN : Hid (V2.heap.size ≠ gm) := fun e => by have := OM2.out.lt; omega
      generalize V2.alloc (.cells (KNo.enc NG).toArray KNo.e) = V3 at *
      generalize V2.heap.size = gs at *
      have LV3 : Hid (Below w.heap.size w V3 ∧ w.heap.size ≤ gm ∧ w.heap.size ≤ gs ∧ gs ≠ gm) := ⟨below_next D7.out LW3.out, GM.out, GS.out, GN.out⟩
      refine wpAnyH_take (i := 7) (v := (.agg (trA gm (.slice (some ⟨gs, 0, none⟩) 1 1) 1 0 0))) rfl (by kernel_rfl) (by kernel_rfl) (by kernel_rfl) (fun _ _ _ h => h) (yl_build (by rfl) _ (by rfl) #[(0, .map (some gm)), (1, .slice (some ⟨gs, 0, none⟩) 1 1), (2, .int .i64 1)] _ (by simp only [List.map_toArray, List.map_cons, List.map_nil]; rfl) (bld_tr gm gs)) hH ?_
      change wpAnyH _ _ _ _ _ _ _ (Act.put _ (some 26) _) _
      simp only [Act.put, List.setIfInBounds_toArray, List.set_cons_zero, List.set_cons_succ]
      refine wpAnyH_ready (rs := [8]) (by kernel_rfl) (by simp) (AllReadyH.cons rfl (fun K1 hK1 => ?_) AllReadyH.nil)
      have FIN := hide (tm_new (tu := 1) LV3.out.1 OM3.out RS3.out LV3.out.2.1 LV3.out.2.2.1 LV3.out.2.2.2)
      refine step_run14 (by rfl) (ex_box14 _ (by rfl) (trA gm (.slice (some ⟨gs, 0, none⟩) 1 1) 1 0 0) (by rfl)) ?_
      refine hK1.out _ _ (S7.out _ (below_next LW3.out ((Below.refl V3.heap.size V3).alloc (Nat.le_refl _) _))) (fun hH => ?_)
      clear hK1
      change wpAnyH _ _ _ _ _ _ _ (Act.put _ (some 27) _) _
      simp only [Act.put, List.setIfInBounds_toArray, List.set_cons_zero, List.set_cons_succ]
      refine wpAnyH_take (i := 9) (v := (.pointer (some ⟨V3.heap.size, 0, none⟩))) rfl (by kernel_rfl) (by kernel_rfl) (by kernel_rfl) (fun _ _ _ h => h) (.inl ⟨by rfl, fun W _ => by go_simp⟩) hH ?_
      change wpAnyH _ _ _ _ _ _ _ (Act.put _ (some 0) _) _
      simp only [Act.put, List.setIfInBounds_toArray, List.set_cons_zero, List.set_cons_succ]
      refine wpAnyH_done (by kernel_rfl) ?_ _
      go_wp2
      go_ret
      exact ⟨_, _, _, rfl, FIN.out⟩
    · have OM2 := hide (OM1.out.alloc (.cells (KNo.enc NG).toArray KNo.e))
      have RS2 := hide (heap_alloc_last V1 (.cells (KNo.enc NG).toArray KNo.e))
      have LW2 := hide (below_next LW1.out ((Below.refl V1.heap.size V1).alloc (Nat.le_refl _) (.cells (KNo.enc NG).toArray KNo.e)))
      refine Ek.stepBs1 KNo (by rfl) _ (by rfl) NG (by rw [EC.out]; rfl) ?_
      refine hK1.out _ _ (S7.out _ LW2.out) (fun hH => ?_)
      clear hK1
      change wpAnyH _ _ _ _ _ _ _ (Act.put _ (some 25) _) _
      simp only [Act.put, List.setIfInBounds_toArray, List.set_cons_zero, List.set_cons_succ]
      have GS : Hid (w.heap.size ≤ V1.heap.size) := Nat.le_trans D7.out.size LW1.out.size
      have GN : Hid (V1.heap.size ≠ gm) := fun e => by have := OM1.out.lt; omega
      generalize V1.alloc (.cells (KNo.enc NG).toArray KNo.e) = V2 at *
      generalize V1.heap.size = gs at *
      refine wpAnyH_ready (rs := [2]) (by kernel_rfl) (by simp) (AllReadyH.cons rfl (fun K1 hK1 => ?_) AllReadyH.nil)
      obtain ⟨V3, hrun, om, gr⟩ := MP.out V2 gm OM2.out
      have OM3 := hide om
      have GR := hide gr
      have LW3 : Hid (Below W7.heap.size W7 V3) := ⟨GR.out.os.trans LW2.out.os, GR.out.tape.trans LW2.out.tape, GR.out.output.trans LW2.out.output, Nat.le_trans LW2.out.size GR.out.size, fun q hq => (GR.out.block q (Nat.lt_of_lt_of_le hq LW2.out.size) (by intro e; cases e; have := GM7.out; omega)).trans (LW2.out.block q hq)⟩
      have RS3 := hide ((GR.out.block _ (lt_heap RS2.out) (by intro e; cases e; exact GN.out rfl)).trans RS2.out)
      refine step_skip14 (by rfl) (ex_ins _ _ _ _ (by rfl) _ _ _ (by rfl) (by rfl) (by rfl) hrun) ?_
      refine hK1.out _ _ (S7.out _ LW3.out) (fun hH => ?_)
      clear hK1 hrun om gr
      change wpAnyH _ _ _ _ _ _ _ (Act.put _ none _) _
      simp only [Act.put]
      refine wpAnyH_take (i := 3) (v := (.map (some gm))) rfl (by kernel_rfl) (by kernel_rfl) (by kernel_rfl) (fun _ _ _ h => h) (yl_move (by rfl) _ (by rfl) _ (by rfl)) hH ?_
      change wpAnyH _ _ _ _ _ _ _ (Act.put _ (some 22) _) _
      simp only [Act.put, List.setIfInBounds_toArray, List.set_cons_zero, List.set_cons_succ]
      have LV3 : Hid (Below w.heap.size w V3 ∧ w.heap.size ≤ gm ∧ w.heap.size ≤ gs ∧ gs ≠ gm) := ⟨below_next D7.out LW3.out, GM.out, GS.out, GN.out⟩
      refine wpAnyH_take (i := 7) (v := (.agg (trA gm (.slice (some ⟨gs, 0, none⟩) 1 1) 1 0 0))) rfl (by kernel_rfl) (by kernel_rfl) (by kernel_rfl) (fun _ _ _ h => h) (yl_build (by rfl) _ (by rfl) #[(0, .map (some gm)), (1, .slice (some ⟨gs, 0, none⟩) 1 1), (2, .int .i64 1)] _ (by simp only [List.map_toArray, List.map_cons, List.map_nil]; rfl) (bld_tr gm gs)) hH ?_
      change wpAnyH _ _ _ _ _ _ _ (Act.put _ (some 26) _) _
      simp only [Act.put, List.setIfInBounds_toArray, List.set_cons_zero, List.set_cons_succ]
      refine wpAnyH_ready (rs := [8]) (by kernel_rfl) (by simp) (AllReadyH.cons rfl (fun K1 hK1 => ?_) AllReadyH.nil)
      have FIN := hide (tm_new (tu := 1) LV3.out.1 OM3.out RS3.out LV3.out.2.1 LV3.out.2.2.1 LV3.out.2.2.2)
      refine step_run14 (by rfl) (ex_box14 _ (by rfl) (trA gm (.slice (some ⟨gs, 0, none⟩) 1 1) 1 0 0) (by rfl)) ?_
      refine hK1.out _ _ (S7.out _ (below_next LW3.out ((Below.refl V3.heap.size V3).alloc (Nat.le_refl _) _))) (fun hH => ?_)
      clear hK1
      change wpAnyH _ _ _ _ _ _ _ (Act.put _ (some 27) _) _
      simp only [Act.put, List.setIfInBounds_toArray, List.set_cons_zero, List.set_cons_succ]
      refine wpAnyH_take (i := 9) (v := (.pointer (some ⟨V3.heap.size, 0, none⟩))) rfl (by kernel_rfl) (by kernel_rfl) (by kernel_rfl) (fun _ _ _ h => h) (.inl ⟨by rfl, fun W _ => by go_simp⟩) hH ?_
      change wpAnyH _ _ _ _ _ _ _ (Act.put _ (some 0) _) _
      simp only [Act.put, List.setIfInBounds_toArray, List.set_cons_zero, List.set_cons_succ]
      refine wpAnyH_done (by kernel_rfl) ?_ _
      go_wp2
      go_ret
      exact ⟨_, _, _, rfl, FIN.out⟩
  · have OM1 : True := trivial
    have RS1 := hide (heap_alloc_last V0 (.cells (KNo.enc NG).toArray KNo.e))
    have LW1 := hide (below_next LW0.out ((Below.refl V0.heap.size V0).alloc (Nat.le_refl _) (.cells (KNo.enc NG).toArray KNo.e)))
    refine Ek.stepBs1 KNo (by rfl) _ (by rfl) NG (by rw [EC.out]; rfl) ?_
    refine hK1.out _ _ (S7.out _ LW1.out) (fun hH => ?_)
    clear hK1
    change wpAnyH _ _ _ _ _ _ _ (Act.put _ (some 25) _) _
    simp only [Act.put, List.setIfInBounds_toArray, List.set_cons_zero, List.set_cons_succ]
    have GS : Hid (w.heap.size ≤ V0.heap.size) := Nat.le_trans D7.out.size LW0.out.size
    generalize V0.alloc (.cells (KNo.enc NG).toArray KNo.e) = V1 at *
    generalize V0.heap.size = gs at *
    refine wpAnyH_ready (rs := [0]) (by kernel_rfl) (by simp) (AllReadyH.cons rfl (fun K1 hK1 => ?_) AllReadyH.nil)
    have RS2 := hide ((Below.heap_alloc V1 (.map #[] 0) _ (lt_heap RS1.out)).trans RS1.out)
    have OM2 := hide (World.ownsMap_made (H := Unit) V1 Tryz.prog 46 (plainElem Tryz.prog 3))
    have LW2 := hide (below_next LW1.out ((Below.refl V1.heap.size V1).alloc (Nat.le_refl _) (.map #[] 0)))
    refine step_run14 (by rfl) (ex_mk14 (by rfl)) ?_
    refine hK1.out _ _ (S7.out _ LW2.out) (fun hH => ?_)
    clear hK1
    change wpAnyH _ _ _ _ _ _ _ (Act.put _ (some 20) _) _
    simp only [Act.put, List.setIfInBounds_toArray, List.set_cons_zero, List.set_cons_succ]
    have GM7 : Hid (W7.heap.size ≤ V1.heap.size) := LW1.out.size
    have GM : Hid (w.heap.size ≤ V1.heap.size) := Nat.le_trans D7.out.size LW1.out.size
    have GN : Hid (gs ≠ V1.heap.size) := fun e => by have := lt_heap RS1.out; omega
    generalize V1.alloc (.map #[] 0) = V2 at *
    generalize V1.heap.size = gm at *
    refine wpAnyH_ready (rs := [2]) (by kernel_rfl) (by simp) (AllReadyH.cons rfl (fun K1 hK1 => ?_) AllReadyH.nil)
    obtain ⟨V3, hrun, om, gr⟩ := MP.out V2 gm OM2.out
    have OM3 := hide om
    have GR := hide gr
    have LW3 : Hid (Below W7.heap.size W7 V3) := ⟨GR.out.os.trans LW2.out.os, GR.out.tape.trans LW2.out.tape, GR.out.output.trans LW2.out.output, Nat.le_trans LW2.out.size GR.out.size, fun q hq => (GR.out.block q (Nat.lt_of_lt_of_le hq LW2.out.size) (by intro e; cases e; have := GM7.out; omega)).trans (LW2.out.block q hq)⟩
    have RS3 := hide ((GR.out.block _ (lt_heap RS2.out) (by intro e; cases e; exact GN.out rfl)).trans RS2.out)
    refine step_skip14 (by rfl) (ex_ins _ _ _ _ (by rfl) _ _ _ (by rfl) (by rfl) (by rfl) hrun) ?_
    refine hK1.out _ _ (S7.out _ LW3.out) (fun hH => ?_)
    clear hK1 hrun om gr
    change wpAnyH _ _ _ _ _ _ _ (Act.put _ none _) _
    simp only [Act.put]
    refine wpAnyH_take (i := 3) (v := (.map (some gm))) rfl (by kernel_rfl) (by kernel_rfl) (by kernel_rfl) (fun _ _ _ h => h) (yl_move (by rfl) _ (by rfl) _ (by rfl)) hH ?_
    change wpAnyH _ _ _ _ _ _ _ (Act.put _ (some 22) _) _
    simp only [Act.put, List.setIfInBounds_toArray, List.set_cons_zero, List.set_cons_succ]
    have LV3 : Hid (Below w.heap.size w V3 ∧ w.heap.size ≤ gm ∧ w.heap.size ≤ gs ∧ gs ≠ gm) := ⟨below_next D7.out LW3.out, GM.out, GS.out, GN.out⟩
    refine wpAnyH_take (i := 7) (v := (.agg (trA gm (.slice (some ⟨gs, 0, none⟩) 1 1) 1 0 0))) rfl (by kernel_rfl) (by kernel_rfl) (by kernel_rfl) (fun _ _ _ h => h) (yl_build (by rfl) _ (by rfl) #[(0, .map (some gm)), (1, .slice (some ⟨gs, 0, none⟩) 1 1), (2, .int .i64 1)] _ (by simp only [List.map_toArray, List.map_cons, List.map_nil]; rfl) (bld_tr gm gs)) hH ?_
    change wpAnyH _ _ _ _ _ _ _ (Act.put _ (some 26) _) _
    simp only [Act.put, List.setIfInBounds_toArray, List.set_cons_zero, List.set_cons_succ]
    refine wpAnyH_ready (rs := [8]) (by kernel_rfl) (by simp) (AllReadyH.cons rfl (fun K1 hK1 => ?_) AllReadyH.nil)
    have FIN := hide (tm_new (tu := 1) LV3.out.1 OM3.out RS3.out LV3.out.2.1 LV3.out.2.2.1 LV3.out.2.2.2)
    refine step_run14 (by rfl) (ex_box14 _ (by rfl) (trA gm (.slice (some ⟨gs, 0, none⟩) 1 1) 1 0 0) (by rfl)) ?_
    refine hK1.out _ _ (S7.out _ (below_next LW3.out ((Below.refl V3.heap.size V3).alloc (Nat.le_refl _) _))) (fun hH => ?_)
    clear hK1
    change wpAnyH _ _ _ _ _ _ _ (Act.put _ (some 27) _) _
    simp only [Act.put, List.setIfInBounds_toArray, List.set_cons_zero, List.set_cons_succ]
    refine wpAnyH_take (i := 9) (v := (.pointer (some ⟨V3.heap.size, 0, none⟩))) rfl (by kernel_rfl) (by kernel_rfl) (by kernel_rfl) (fun _ _ _ h => h) (.inl ⟨by rfl, fun W _ => by go_simp⟩) hH ?_
    change wpAnyH _ _ _ _ _ _ _ (Act.put _ (some 0) _) _
    simp only [Act.put, List.setIfInBounds_toArray, List.set_cons_zero, List.set_cons_succ]
    refine wpAnyH_done (by kernel_rfl) ?_ _
    go_wp2
    go_ret
    exact ⟨_, _, _, rfl, FIN.out⟩
end
end Go.Proofs.YtofddbjnncgmlaaGreatDoor
