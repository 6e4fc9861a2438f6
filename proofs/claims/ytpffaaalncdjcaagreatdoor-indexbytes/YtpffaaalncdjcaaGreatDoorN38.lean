/- The index: stands, fits and keep of an entry that is new, of height 0: their contracts. The index: Put of a first entry, Open on a fresh disk, awake: their contracts. The index: Open on a fresh disk, awake: their contracts. -/
import Derived.Test.YtpffaaalncdjcaaGreatDoorN37
namespace Go.Proofs.YtpffaaalncdjcaaGreatDoor
open Go.RowKit
open Go.Deep
open Go.Maps
set_option linter.unusedVariables false
section
variable {B W W' : World} {gx gm gj n : Nat} {D : DataW Unit} {ve : Value} {L : List En} {lo : Int}
/-- A thing put into the map. -/
theorem Xm.put (h : Xm B W gx gm gj n D ve L lo) (c : DataW Unit) {D' : DataW Unit} {n' : Nat} (ho : W'.ownsMap Tryz.prog 24 (plainElem Tryz.prog 3) gm n' D') (hg : W.mapTurned W' gm) : Xm B W' gx gm gj n' D' ve L lo := by
  have g := hg.grown
  have hs := h.bel.size
  have hz := g.size
  refine ⟨(g.block _ (lt_heap h.row) fun c => h.ne (by cases c; rfl)).trans h.row, ho, h.own.of_block fun k hk => g.block _ (h.own.lt k hk) fun c => (h.be k hk).2.2 (by cases c; rfl), ⟨g.os.trans h.bel.os, g.tape.trans h.bel.tape, g.output.trans h.bel.output, by omega, fun k hk => (g.block k (by omega) fun c => ?_).trans (h.bel.block k hk)⟩, h.bx, h.bm, h.ne, h.be⟩
  have := h.bm
  cases c
  omega
/-- A list in the place of the one that there was. -/
theorem Xm.setL (h : Xm B W gx gm gj n D ve L lo) {v' : Value} {L' : List En} (on : Onto W W' ve v') (ho : OX KE W' v' L') : W'.heap[gx]? = some (.cells (ixA gj gm ve lo) 107 (0, 0)) ∧ Xm B (W'.setCell ⟨gx, 2, none⟩ v') gx gm gj n D v' L' lo := by
  have g := on.grown
  have hs := h.bel.size
  have hz := g.size
  have blk : ∀ k, k < W.heap.size → ve.ownBlock ≠ some k → W'.heap[k]? = W.heap[k]? := fun k hk hn => g.block k hk (fun e => hn e.symm)
  have hrow : W'.heap[gx]? = some (.cells (ixA gj gm ve lo) 107 (0, 0)) := (blk gx (lt_heap h.row) fun e => (h.be gx e).2.1 rfl).trans h.row
  have hb : ∀ k, k ≠ gx → (W'.setCell ⟨gx, 2, none⟩ v').heap[k]? = W'.heap[k]? := fun k hk => Below.heap_setCell _ _ _ _ hk
  have hsz : (W'.setCell ⟨gx, 2, none⟩ v').heap.size = W'.heap.size := by simp [World.setCell]
  have hv : ∀ k, v'.ownBlock = some k → B.heap.size ≤ k ∧ k ≠ gx ∧ k ≠ gm := fun k hk => by
    rcases on.lies with e | ⟨c, e, hc⟩
    · exact h.be k (by rw [← e]; exact hk)
    · rw [e] at hk
      cases hk
      have h1 := lt_heap h.row
      have h2 := ownsMap_lt h.map
      exact ⟨by omega, by omega, by omega⟩
  refine ⟨hrow, ⟨heap_setCell_same W' gx 2 _ _ v' hrow, ?_, ho.of_block fun k hk => hb k (hv k hk).2.1, ?_, h.bx, h.bm, h.ne, hv⟩⟩
  · exact ownsMap_of_block h.map ((hb gm (Ne.symm h.ne)).trans (blk gm (ownsMap_lt h.map) fun e => (h.be gm e).2.2 rfl))
  · have hx := h.bx
    exact ⟨g.os.trans h.bel.os, g.tape.trans h.bel.tape, g.output.trans h.bel.output, by rw [hsz]; omega, fun k hk => (hb k (by omega)).trans ((blk k (by omega) fun e => by have := (h.be k e).1; omega).trans (h.bel.block k hk))⟩
end
theorem ex_mapU {a : Act} {o : Oper} {w w1 : World} (t : TypeId) (m x y : Operand) (ho : o.op = .mapUpdate t m x y) (vm vx vy : Value) (hm : a.eval m = vm) (hx : a.eval x = vx) (hy : a.eval y = vy) (hr : (Instr.mapUpdate t vm vx vy).run Tryz.prog w = .ok () w1) : (execOp a.eval o).run Tryz.prog w = .ok .skip w1 := by
  unfold execOp
  simp [ho, hm, hx, hy, hr, Result.andThen]
section
set_option maxRecDepth 10000
set_option maxHeartbeats 4000000
theorem stands_zero (vx : Value) (x : En) (hx : x.ht = 0) (w : World) : Calls Tryz.prog 81 #[vx, .agg x.cells.toArray] w fun e w' => e = .returned (.int .i64 0) ∧ Below w.heap.size w w' := by
  have b1 := (Below.refl w.heap.size w).alloc (Nat.le_refl _) (.cells x.cells.toArray 28)
  have B1 := hide b1
  have c0 := (x.row (heap_alloc_last w (.cells x.cells.toArray 28))).2.1
  rw [hx] at c0
  clear b1 hx
  generalize x.cells.toArray = C at *
  go_enter Tryz.func81, Tryz.ntmps81
  go_upto_region 1 with ((with_reducible refine at_list ?_); refine wpList_boxA rfl _ rfl C rfl ?_)
  generalize w.alloc (.cells C 28) = W0 at *
  go_wp2
  go_ret
  exact ⟨rfl, B1.out⟩
theorem fits_new {B w : World} {gx gm gj n : Nat} {D : DataW Unit} {ve : Value} {L : List En} {lo : Int} (h : Xm B w gx gm gj n D ve L lo) (l : List UInt8) (hl : l.length = 32) (c : Int) (hat : D.atKey (.string l) (.lit (.int .i64 0)) = .lit (.int .i64 c)) (hh : Maps.has D (.string l) = false) (hn : L.length ≤ 20000) (x : En) (hx : x.ht = 0) : Calls Tryz.prog 64 #[.pointer (some ⟨gx, 0, none⟩), .agg (hc l), .agg x.cells.toArray] w fun e w' => e = .returned (.int .i64 0) ∧ Below w.heap.size w w' := by
  have s1 : (w.alloc (.cells (hc l) 24)).heap.size = w.heap.size + 1 := by simp
  have R4 := hide ((Below.heap_alloc _ (.cells x.cells.toArray 28) _ (lt_heap (heap_alloc_last w (.cells (hc l) 24)))).trans (heap_alloc_last w (.cells (hc l) 24)))
  have R5 := hide (heap_alloc_last (w.alloc (.cells (hc l) 24)) (.cells x.cells.toArray 28))
  have b1 := ((Below.refl w.heap.size w).alloc (Nat.le_refl _) (.cells (hc l) 24)).alloc (by rw [s1]; omega) (.cells x.cells.toArray 28)
  have B1 := hide b1
  have X1 := hide (h.next b1)
  obtain ⟨ao, cap, rfl⟩ := h.own.form
  have HG := hide fun W (q : Xm B W gx gm gj n D (.slice ao L.length cap) L lo) => getI_no q l hl c hat hh
  have HS := hide fun W => stands_zero (.pointer (some ⟨gx, 0, none⟩)) x hx W
  have CZ : Hid ((hc l).size = 32) := by show _ = _; rw [hc_size, hl]
  have XZ := hide x.size
  have q1 : ¬ (L.length : Int) > 20000 := by omega
  have q2 : ¬ (20000 : Int) < (L.length : Int) := by omega
  rw [s1] at R5
  clear b1 hat hh h hn hx
  generalize hc l = C at *
  generalize x.cells.toArray = E at *
  go_enter Tryz.func64, Tryz.ntmps64
  go_upto_region 1 with ((with_reducible refine at_list ?_); first | refine wpList_boxA rfl _ rfl C rfl ?_ | refine wpList_boxA rfl _ rfl E rfl ?_)
  try rw [s1]
  clear s1
  generalize (w.alloc (.cells C 24)).alloc (.cells E 28) = W0 at *
  go_upto_region 2 with (first | (go_at_call 27; refine (HG.out _ X1.out).mono ?_; rintro r W1 ⟨rfl, be⟩; have D1 := hide be; clear be) | ((with_reducible refine at_list ?_); first | refine wpList_loadS A25 _ rfl w.heap.size rfl C CZ.out 24 R4.out (by rfl) ?_ | refine wpList_allocA AEn rfl rfl ?_ | refine wpList_store_newA AEn rfl _ _ rfl _ rfl zEn.cells.toArray zEn.size zEn.all rfl rfl ?_))
  have b2 := (Below.refl W1.heap.size W1).alloc (Nat.le_refl _) (.cells zEn.cells.toArray 28)
  have D2 := hide (below_next D1.out b2)
  clear b2 D1
  generalize W1.alloc (.cells zEn.cells.toArray 28) = W2 at *
  have X2 := hide (X1.out.next D2.out)
  have c2 := X2.out.cells.2.2.1
  have R6 := hide ((D2.out.block _ (lt_heap R5.out)).trans R5.out)
  go_wp2_with (first | (go_at_call 81; refine (HS.out _).mono ?_; rintro r W3 ⟨rfl, be⟩; have D3 := hide (below_next D2.out be); clear be) | ((with_reducible refine at_list ?_); refine wpList_loadS AEn _ rfl (w.heap.size + 1) rfl E XZ.out 28 R6.out (by rfl) ?_))
  go_ret
  exact ⟨rfl, below_next B1.out D3.out⟩
theorem keep_new {B w : World} {gx gm gj n : Nat} {D : DataW Unit} {ve : Value} {L : List En} {lo : Int} (h : Xm B w gx gm gj n D ve L lo) (l : List UInt8) (hl : l.length = 32) (c : Int) (hat : D.atKey (.string l) (.lit (.int .i64 0)) = .lit (.int .i64 c)) (hh : Maps.has D (.string l) = false) (hn : L.length ≤ 20000) (hm : n ≤ 1000000) (x : En) : Calls Tryz.prog 65 #[.pointer (some ⟨gx, 0, none⟩), .agg (hc l), .agg x.cells.toArray] w fun e w' => e = .returned (.tuple #[]) ∧ ∃ v', Xm B w' gx gm gj (n + 1) (D.put (.string l) (.lit (.int .i64 (L.length : Int)))) v' (L ++ [x]) lo ∧ Fr (fun g => g = gx ∨ g = gm ∨ ve.ownBlock = some g) w w' := by
  have s1 : (w.alloc (.cells (hc l) 24)).heap.size = w.heap.size + 1 := by simp
  have R4 := hide ((Below.heap_alloc _ (.cells x.cells.toArray 28) _ (lt_heap (heap_alloc_last w (.cells (hc l) 24)))).trans (heap_alloc_last w (.cells (hc l) 24)))
  have R5 := hide (heap_alloc_last (w.alloc (.cells (hc l) 24)) (.cells x.cells.toArray 28))
  have b1 := ((Below.refl w.heap.size w).alloc (Nat.le_refl _) (.cells (hc l) 24)).alloc (by rw [s1]; omega) (.cells x.cells.toArray 28)
  have B1 := hide b1
  have X1 := hide (h.next b1)
  have HX := hide h
  obtain ⟨ao, cap, rfl⟩ := h.own.form
  have LK : Hid (∀ W, Xm B W gx gm gj n D (.slice ao L.length cap) L lo → (Instr.lookup 105 (.map (some gm)) (.agg (hc l)) true).run Tryz.prog W = .ok (.tuple #[.int .i64 c, .bool false]) W) := fun W q => by
    have := look13 q.map l hl c hat
    rw [hh] at this
    exact this
  have LP : Hid (∀ W, Xm B W gx gm gj n D (.slice ao L.length cap) L lo → ∃ W', (Instr.mapUpdate 105 (.map (some gm)) (.agg (hc l)) (.int .i64 (L.length : Int))).run Tryz.prog W = .ok () W' ∧ Xm B W' gx gm gj (n + 1) (D.put (.string l) (.lit (.int .i64 (L.length : Int)))) (.slice ao L.length cap) L lo ∧ W.grownBy W' (some gm)) := fun W q => by
    obtain ⟨W', hr, ho, hg⟩ := q.map.store (val := .int .i64 (L.length : Int)) (d := .lit (.int .i64 (L.length : Int))) (ps := []) lawH13 Tryz.underlying105 (by unfold maxLen; omega) (keyH13 l hl) (plainElem_int Tryz.underlying3 (by simp [Lit.wf, IntKind.min, IntKind.max, IntKind.signed, IntKind.bits]; omega))
    exact ⟨W', hr, q.put (.lit (.int .i64 0)) ho hg, hg.grown⟩
  have CZ : Hid ((hc l).size = 32) := by show _ = _; rw [hc_size, hl]
  have XZ := hide x.size
  have HN := hide hn
  rw [s1] at R5
  clear b1 hat hh h hn hm
  generalize hc l = C at *
  generalize hE : x.cells.toArray = E at *
  have HE := hide hE
  clear hE
  generalize D.put (.string l) (.lit (.int .i64 (L.length : Int))) = D' at *
  go_enter Tryz.func65, Tryz.ntmps65
  go_upto_region 1 with ((with_reducible refine at_list ?_); first | refine wpList_boxA rfl _ rfl C rfl ?_ | refine wpList_boxA rfl _ rfl E rfl ?_)
  try rw [s1]
  clear s1
  generalize (w.alloc (.cells C 24)).alloc (.cells E 28) = W0 at *
  have DV1 := hide ((Below.refl W0.heap.size W0).drew)
  refine wp_region_held_drew (S := fun W => Below W0.heap.size W0 W) (by kernel_rfl) DV1.out (fun hH => ?_)
  generalize hWd : W0.drew = V1 at *
  clear hWd
  refine wpAnyH_take (i := 0) (v := (.pointer (some ⟨gx, 0, none⟩))) rfl (by kernel_rfl) (by kernel_rfl) (by kernel_rfl) (fun _ _ _ h => h) (yl_move (by rfl) _ (by rfl) _ (by rfl)) hH ?_
  change wpAnyH _ _ _ _ _ _ _ (Act.put _ (some 9) _) _
  simp only [Act.put, List.setIfInBounds_toArray, List.set_cons_zero, List.set_cons_succ]
  refine wpAnyH_take (i := 1) (v := (.pointer (some ⟨gx, 0, none⟩))) rfl (by kernel_rfl) (by kernel_rfl) (by kernel_rfl) (fun _ _ _ h => h) (.inl ⟨by rfl, fun W _ => by go_simp⟩) hH ?_
  change wpAnyH _ _ _ _ _ _ _ (Act.put _ (some 10) _) _
  simp only [Act.put, List.setIfInBounds_toArray, List.set_cons_zero, List.set_cons_succ]
  refine wpAnyH_take (i := 2) (v := (.pointer (some ⟨gx, 1, none⟩))) rfl (by kernel_rfl) (by kernel_rfl) (by kernel_rfl) (fun _ _ _ h => h) (.inl ⟨by rfl, fun W _ => by go_simp⟩) hH ?_
  change wpAnyH _ _ _ _ _ _ _ (Act.put _ (some 11) _) _
  simp only [Act.put, List.setIfInBounds_toArray, List.set_cons_zero, List.set_cons_succ]
  refine wpAnyH_take (i := 3) (v := (.map (some gm))) rfl (by kernel_rfl) (by kernel_rfl) (by kernel_rfl) (fun _ _ _ h => h) (.inl ⟨by rfl, fun W hS => by have c4 := (X1.out.next hS).cells.2.1; go_simp⟩) hH ?_
  change wpAnyH _ _ _ _ _ _ _ (Act.put _ (some 12) _) _
  simp only [Act.put, List.setIfInBounds_toArray, List.set_cons_zero, List.set_cons_succ]
  refine wpAnyH_take (i := 4) (v := (.agg C)) rfl (by kernel_rfl) (by kernel_rfl) (by kernel_rfl) (fun _ _ _ h => h) (yl_load (by rfl) _ (by rfl) _ C (by rfl) (fun W hS => ld_row A25 CZ.out ((hS.block _ (lt_heap R4.out)).trans R4.out))) hH ?_
  change wpAnyH _ _ _ _ _ _ _ (Act.put _ (some 13) _) _
  simp only [Act.put, List.setIfInBounds_toArray, List.set_cons_zero, List.set_cons_succ]
  refine wpAnyH_take (i := 5) (v := (.tuple #[.int .i64 c, .bool false])) rfl (by kernel_rfl) (by kernel_rfl) (by kernel_rfl) (fun _ _ _ h => h) (yl_look (by rfl) _ _ _ (by rfl) _ _ (by rfl) (by rfl) _ (fun W hS => LK.out W (X1.out.next hS))) hH ?_
  change wpAnyH _ _ _ _ _ _ _ (Act.put _ (some 14) _) _
  simp only [Act.put, List.setIfInBounds_toArray, List.set_cons_zero, List.set_cons_succ]
  refine wpAnyH_take (i := 6) (v := (.tuple #[.int .i64 c, .bool false])) rfl (by kernel_rfl) (by kernel_rfl) (by kernel_rfl) (fun _ _ _ h => h) (yl_move (by rfl) _ (by rfl) _ (by rfl)) hH ?_
  change wpAnyH _ _ _ _ _ _ _ (Act.put _ (some 8) _) _
  simp only [Act.put, List.setIfInBounds_toArray, List.set_cons_zero, List.set_cons_succ]
  refine wpAnyH_take (i := 7) (v := (.int .i64 c)) rfl (by kernel_rfl) (by kernel_rfl) (by kernel_rfl) (fun _ _ _ h => h) (.inl ⟨by rfl, fun W _ => by go_simp⟩) hH ?_
  change wpAnyH _ _ _ _ _ _ _ (Act.put _ (some 15) _) _
  simp only [Act.put, List.setIfInBounds_toArray, List.set_cons_zero, List.set_cons_succ]
  refine wpAnyH_take (i := 8) (v := (.bool false)) rfl (by kernel_rfl) (by kernel_rfl) (by kernel_rfl) (fun _ _ _ h => h) (.inl ⟨by rfl, fun W _ => by go_simp⟩) hH ?_
  change wpAnyH _ _ _ _ _ _ _ (Act.put _ (some 16) _) _
  simp only [Act.put, List.setIfInBounds_toArray, List.set_cons_zero, List.set_cons_succ]
  refine wpAnyH_take (i := 9) (v := (.int .i64 c)) rfl (by kernel_rfl) (by kernel_rfl) (by kernel_rfl) (fun _ _ _ h => h) (.inl ⟨by rfl, fun W _ => by go_simp⟩) hH ?_
  change wpAnyH _ _ _ _ _ _ _ (Act.put _ (some 6) _) _
  simp only [Act.put, List.setIfInBounds_toArray, List.set_cons_zero, List.set_cons_succ]
  refine wpAnyH_take (i := 10) (v := (.bool false)) rfl (by kernel_rfl) (by kernel_rfl) (by kernel_rfl) (fun _ _ _ h => h) (.inl ⟨by rfl, fun W _ => by go_simp⟩) hH ?_
  change wpAnyH _ _ _ _ _ _ _ (Act.put _ (some 7) _) _
  simp only [Act.put, List.setIfInBounds_toArray, List.set_cons_zero, List.set_cons_succ]
  refine wpAnyH_done (by kernel_rfl) ?_ _
  clear hH
  go_upto_region 4 with fail
  have X2 := hide (X1.out.next DV1.out)
  have R4b := hide ((DV1.out.block _ (lt_heap R4.out)).trans R4.out)
  have R5b := hide ((DV1.out.block _ (lt_heap R5.out)).trans R5.out)
  have BV1 := hide (below_next B1.out DV1.out)
  have NE4 : Hid (w.heap.size ≠ gm ∧ w.heap.size + 1 ≠ gm ∧ w.heap.size + 1 ≠ gx) := by
    have h1 := ownsMap_lt HX.out.map
    have h2 := lt_heap HX.out.row
    exact ⟨by omega, by omega, by omega⟩
  clear X1 DV1 R4 R5 LK
  have DW1 := hide ((Below.refl V1.heap.size V1).drew)
  refine wp_region_held_drew (S := fun W => W.cell? ⟨gx, 1, none⟩ = some (.map (some gm)) ∧ W.cell? ⟨gx, 2, none⟩ = some (.slice ao L.length cap) ∧ W.heap[w.heap.size]? = some (.cells C 24 (0, 0))) (by kernel_rfl) ⟨(X2.out.next DW1.out).cells.2.1, (X2.out.next DW1.out).cells.2.2.1, (DW1.out.block _ (lt_heap R4b.out)).trans R4b.out⟩ (fun hH => ?_)
  generalize hWd : V1.drew = V2 at *
  clear hWd
  refine wpAnyH_take (i := 0) (v := (.pointer (some ⟨gx, 0, none⟩))) rfl (by kernel_rfl) (by kernel_rfl) (by kernel_rfl) (fun _ _ _ h => h) (yl_move (by rfl) _ (by rfl) _ (by rfl)) hH ?_
  change wpAnyH _ _ _ _ _ _ _ (Act.put _ (some 25) _) _
  simp only [Act.put, List.setIfInBounds_toArray, List.set_cons_zero, List.set_cons_succ]
  refine wpAnyH_take (i := 1) (v := (.pointer (some ⟨gx, 0, none⟩))) rfl (by kernel_rfl) (by kernel_rfl) (by kernel_rfl) (fun _ _ _ h => h) (.inl ⟨by rfl, fun W _ => by go_simp⟩) hH ?_
  change wpAnyH _ _ _ _ _ _ _ (Act.put _ (some 26) _) _
  simp only [Act.put, List.setIfInBounds_toArray, List.set_cons_zero, List.set_cons_succ]
  refine wpAnyH_take (i := 2) (v := (.pointer (some ⟨gx, 1, none⟩))) rfl (by kernel_rfl) (by kernel_rfl) (by kernel_rfl) (fun _ _ _ h => h) (.inl ⟨by rfl, fun W _ => by go_simp⟩) hH ?_
  change wpAnyH _ _ _ _ _ _ _ (Act.put _ (some 27) _) _
  simp only [Act.put, List.setIfInBounds_toArray, List.set_cons_zero, List.set_cons_succ]
  refine wpAnyH_take (i := 3) (v := (.map (some gm))) rfl (by kernel_rfl) (by kernel_rfl) (by kernel_rfl) (fun _ _ _ h => h) (.inl ⟨by rfl, fun W hS => by have c4 := hS.1; go_simp⟩) hH ?_
  change wpAnyH _ _ _ _ _ _ _ (Act.put _ (some 28) _) _
  simp only [Act.put, List.setIfInBounds_toArray, List.set_cons_zero, List.set_cons_succ]
  refine wpAnyH_take (i := 4) (v := (.agg C)) rfl (by kernel_rfl) (by kernel_rfl) (by kernel_rfl) (fun _ _ _ h => h) (yl_load (by rfl) _ (by rfl) _ C (by rfl) (fun W hS => ld_row A25 CZ.out hS.2.2)) hH ?_
  change wpAnyH _ _ _ _ _ _ _ (Act.put _ (some 29) _) _
  simp only [Act.put, List.setIfInBounds_toArray, List.set_cons_zero, List.set_cons_succ]
  refine wpAnyH_take (i := 5) (v := (.pointer (some ⟨gx, 0, none⟩))) rfl (by kernel_rfl) (by kernel_rfl) (by kernel_rfl) (fun _ _ _ h => h) (yl_move (by rfl) _ (by rfl) _ (by rfl)) hH ?_
  change wpAnyH _ _ _ _ _ _ _ (Act.put _ (some 30) _) _
  simp only [Act.put, List.setIfInBounds_toArray, List.set_cons_zero, List.set_cons_succ]
  refine wpAnyH_take (i := 6) (v := (.pointer (some ⟨gx, 0, none⟩))) rfl (by kernel_rfl) (by kernel_rfl) (by kernel_rfl) (fun _ _ _ h => h) (.inl ⟨by rfl, fun W _ => by go_simp⟩) hH ?_
  change wpAnyH _ _ _ _ _ _ _ (Act.put _ (some 31) _) _
  simp only [Act.put, List.setIfInBounds_toArray, List.set_cons_zero, List.set_cons_succ]
  refine wpAnyH_take (i := 7) (v := (.pointer (some ⟨gx, 2, none⟩))) rfl (by kernel_rfl) (by kernel_rfl) (by kernel_rfl) (fun _ _ _ h => h) (.inl ⟨by rfl, fun W _ => by go_simp⟩) hH ?_
  change wpAnyH _ _ _ _ _ _ _ (Act.put _ (some 32) _) _
  simp only [Act.put, List.setIfInBounds_toArray, List.set_cons_zero, List.set_cons_succ]
  refine wpAnyH_take (i := 8) (v := (.slice ao L.length cap)) rfl (by kernel_rfl) (by kernel_rfl) (by kernel_rfl) (fun _ _ _ h => h) (.inl ⟨by rfl, fun W hS => by have c4 := hS.2.1; go_simp⟩) hH ?_
  change wpAnyH _ _ _ _ _ _ _ (Act.put _ (some 33) _) _
  simp only [Act.put, List.setIfInBounds_toArray, List.set_cons_zero, List.set_cons_succ]
  refine wpAnyH_take (i := 9) (v := (.int .i64 (L.length : Int))) rfl (by kernel_rfl) (by kernel_rfl) (by kernel_rfl) (fun _ _ _ h => h) (.inl ⟨by rfl, fun W _ => by go_simp⟩) hH ?_
  change wpAnyH _ _ _ _ _ _ _ (Act.put _ (some 34) _) _
  simp only [Act.put, List.setIfInBounds_toArray, List.set_cons_zero, List.set_cons_succ]
  have X3 := hide (X2.out.next DW1.out)
  obtain ⟨V3, hrun, x4, g4⟩ := LP.out V2 X3.out
  have X4 := hide x4
  have G4 := hide g4
  refine wpAnyH_ready (rs := [10]) (by kernel_rfl) (by simp) (AllReadyH.cons rfl (fun K1 hK1 => ?_) AllReadyH.nil)
  refine step_skip (by rfl) (ex_mapU _ _ _ _ (by rfl) _ _ _ (by rfl) (by rfl) (by rfl) hrun) ?_
  have R4c := hide ((G4.out.block _ (Nat.lt_of_lt_of_le (lt_heap R4b.out) DW1.out.size) (by intro e; cases e; exact NE4.out.1 rfl)).trans ((DW1.out.block _ (lt_heap R4b.out)).trans R4b.out))
  have R5c := hide ((G4.out.block _ (Nat.lt_of_lt_of_le (lt_heap R5b.out) DW1.out.size) (by intro e; cases e; exact NE4.out.2.1 rfl)).trans ((DW1.out.block _ (lt_heap R5b.out)).trans R5b.out))
  refine hK1.out _ _ ⟨X4.out.cells.2.1, X4.out.cells.2.2.1, R4c.out⟩ (fun hH => ?_)
  clear hK1 hrun x4 g4
  change wpAnyH _ _ _ _ _ _ _ (Act.put _ none _) _
  simp only [Act.put]
  refine wpAnyH_done (by kernel_rfl) ?_ _
  clear hH
  go_upto_region 5 with fail
  have DX1 := hide ((Below.refl V3.heap.size V3).drew)
  have XR := hide (rowAt x.cells (by rw [HE.out]; exact R5c.out))
  refine wp_region_held_drew (S := fun W => W.heap[w.heap.size + 1]? = some (.cells E 28 (0, 0))) (by kernel_rfl) ((DX1.out.block _ (lt_heap R5c.out)).trans R5c.out) (fun hH => ?_)
  generalize hWd : V3.drew = V4 at *
  clear hWd
  have X5 := hide (X4.out.next DX1.out)
  have R5d := hide ((DX1.out.block _ (lt_heap R5c.out)).trans R5c.out)
  refine wpAnyH_take (i := 0) (v := (.pointer (some ⟨gx, 0, none⟩))) rfl (by kernel_rfl) (by kernel_rfl) (by kernel_rfl) (fun _ _ _ h => h) (yl_move (by rfl) _ (by rfl) _ (by rfl)) hH ?_
  change wpAnyH _ _ _ _ _ _ _ (Act.put _ (some 35) _) _
  simp only [Act.put, List.setIfInBounds_toArray, List.set_cons_zero, List.set_cons_succ]
  refine wpAnyH_take (i := 1) (v := (.pointer (some ⟨gx, 0, none⟩))) rfl (by kernel_rfl) (by kernel_rfl) (by kernel_rfl) (fun _ _ _ h => h) (yl_move (by rfl) _ (by rfl) _ (by rfl)) hH ?_
  change wpAnyH _ _ _ _ _ _ _ (Act.put _ (some 36) _) _
  simp only [Act.put, List.setIfInBounds_toArray, List.set_cons_zero, List.set_cons_succ]
  refine wpAnyH_take (i := 2) (v := (.pointer (some ⟨gx, 0, none⟩))) rfl (by kernel_rfl) (by kernel_rfl) (by kernel_rfl) (fun _ _ _ h => h) (.inl ⟨by rfl, fun W _ => by go_simp⟩) hH ?_
  change wpAnyH _ _ _ _ _ _ _ (Act.put _ (some 37) _) _
  simp only [Act.put, List.setIfInBounds_toArray, List.set_cons_zero, List.set_cons_succ]
  refine wpAnyH_take (i := 3) (v := (.pointer (some ⟨gx, 2, none⟩))) rfl (by kernel_rfl) (by kernel_rfl) (by kernel_rfl) (fun _ _ _ h => h) (.inl ⟨by rfl, fun W _ => by go_simp⟩) hH ?_
  change wpAnyH _ _ _ _ _ _ _ (Act.put _ (some 38) _) _
  simp only [Act.put, List.setIfInBounds_toArray, List.set_cons_zero, List.set_cons_succ]
  refine wpAnyH_take (i := 5) (v := (.agg E)) rfl (by kernel_rfl) (by kernel_rfl) (by kernel_rfl) (fun _ _ _ h => h) (yl_load (by rfl) _ (by rfl) _ E (by rfl) (fun W hS => ld_row AEn XZ.out hS)) hH ?_
  change wpAnyH _ _ _ _ _ _ _ (Act.put _ (some 40) _) _
  simp only [Act.put, List.setIfInBounds_toArray, List.set_cons_zero, List.set_cons_succ]
  refine wpAnyH_ready (rs := [4, 6]) (by kernel_rfl) (by simp) (AllReadyH.cons rfl (fun K1 hK1 => ?_) (AllReadyH.cons rfl (fun K1 hK1 => ?_) AllReadyH.nil))
  · have c2 := X5.out.cells.2.2.1
    go_simp
    refine hK1.out _ _ R5d.out (fun hH => ?_)
    clear hK1 c2
    refine wpAnyH_ready (rs := [6]) (by kernel_rfl) (by simp) (AllReadyH.cons rfl (fun K1 hK1 => ?_) AllReadyH.nil)
    refine Ek.stepBs1 KE (by rfl) _ (by rfl) x (by rw [show (KE.enc x).toArray = E from HE.out]; rfl) ?_
    have ba := (Below.refl V4.heap.size V4).alloc (Nat.le_refl _) (.cells (KE.enc x).toArray KE.e)
    have X6 := hide (X5.out.next ba)
    have R5e := hide ((ba.block _ (lt_heap R5d.out)).trans R5d.out)
    have N6 := hide (one_newX (E := KE) V4 x)
    have D6 := hide (below_next DX1.out ba)
    refine hK1.out _ _ R5e.out (fun hH => ?_)
    clear hK1 ba
    change wpAnyH _ _ _ _ _ _ _ (Act.put _ (some 41) _) _
    simp only [Act.put, List.setIfInBounds_toArray, List.set_cons_zero, List.set_cons_succ]
    generalize V4.alloc (.cells (KE.enc x).toArray KE.e) = V5 at *
    generalize V4.heap.size = g6 at *
    refine wpAnyH_ready (rs := [7]) (by kernel_rfl) (by simp) (AllReadyH.cons rfl (fun K1 hK1 => ?_) AllReadyH.nil)
    refine Ek.stepApp KE (by rfl) _ _ (by rfl) _ L (by rfl) X6.out.own ⟨g6, 0, none⟩ x (by rfl) N6.out (by have := HN.out; show (L.length + 1) * 120 ≤ _; omega) (by have := HN.out; unfold maxLen; omega) ?_
    intro v' V6 ho hon
    have YY := hide (X6.out.setL hon ho)
    have HON := hide hon
    have R5f := hide ((hon.grown.block _ (lt_heap R5e.out) (by intro e; have h9 := (HX.out.own.lt _ e.symm); omega)).trans R5e.out)
    obtain ⟨ao', cap', rfl⟩ := ho.form
    clear ho hon
    generalize (L ++ [x]).length = NN at *
    refine hK1.out _ _ R5f.out (fun hH => ?_)
    clear hK1
    change wpAnyH _ _ _ _ _ _ _ (Act.put _ (some 42) _) _
    simp only [Act.put, List.setIfInBounds_toArray, List.set_cons_zero, List.set_cons_succ]
    refine wpAnyH_take (i := 8) (v := (.pointer (some ⟨gx, 0, none⟩))) rfl (by kernel_rfl) (by kernel_rfl) (by kernel_rfl) (fun _ _ _ h => h) (.inl ⟨by rfl, fun W _ => by go_simp⟩) hH ?_
    change wpAnyH _ _ _ _ _ _ _ (Act.put _ (some 43) _) _
    simp only [Act.put, List.setIfInBounds_toArray, List.set_cons_zero, List.set_cons_succ]
    refine wpAnyH_take (i := 9) (v := (.pointer (some ⟨gx, 2, none⟩))) rfl (by kernel_rfl) (by kernel_rfl) (by kernel_rfl) (fun _ _ _ h => h) (.inl ⟨by rfl, fun W _ => by go_simp⟩) hH ?_
    change wpAnyH _ _ _ _ _ _ _ (Act.put _ (some 44) _) _
    simp only [Act.put, List.setIfInBounds_toArray, List.set_cons_zero, List.set_cons_succ]
    have c2 : V6.cell? ⟨gx, 2, none⟩ = some (.slice ao L.length cap) := by rw [cell_of_row _ _ _ _ _ _ YY.out.1]; rfl
    have f2 := frozen_of_row V6 gx 2 _ _ YY.out.1
    have R5g := hide ((Below.heap_setCell V6 ⟨gx, 2, none⟩ (.slice ao' NN cap') _ NE4.out.2.2).trans R5f.out)
    refine wpAnyH_ready (rs := [10]) (by kernel_rfl) (by simp) (AllReadyH.cons rfl (fun K1 hK1 => ?_) AllReadyH.nil)
    go_simp
    refine hK1.out _ _ ?_ (fun hH => ?_)
    · exact R5g.out
    clear hK1
    refine wpAnyH_done (by kernel_rfl) ?_ _
    clear hH
    go_wp2
    exact bodyPost_end (results_none (by kernel_rfl) _ _ _) rfl ⟨rfl, _, YY.out.2, ((((Fr.of_below BV1.out).next DW1.out).trans' (Fr.of_grown G4.out (fun g e => by cases e; exact .inr (.inl rfl)))).next D6.out).trans' ((Fr.of_grown HON.out.grown (fun g e => .inr (.inr e))).trans' (Fr.setCell V6 (p := ⟨gx, 2, none⟩) (.inl rfl) _))⟩
  · refine Ek.stepBs1 KE (by rfl) _ (by rfl) x (by rw [show (KE.enc x).toArray = E from HE.out]; rfl) ?_
    have ba := (Below.refl V4.heap.size V4).alloc (Nat.le_refl _) (.cells (KE.enc x).toArray KE.e)
    have X6 := hide (X5.out.next ba)
    have R5e := hide ((ba.block _ (lt_heap R5d.out)).trans R5d.out)
    have N6 := hide (one_newX (E := KE) V4 x)
    have D6 := hide (below_next DX1.out ba)
    refine hK1.out _ _ R5e.out (fun hH => ?_)
    clear hK1 ba
    change wpAnyH _ _ _ _ _ _ _ (Act.put _ (some 41) _) _
    simp only [Act.put, List.setIfInBounds_toArray, List.set_cons_zero, List.set_cons_succ]
    generalize V4.alloc (.cells (KE.enc x).toArray KE.e) = V5 at *
    generalize V4.heap.size = g6 at *
    have c2 := X6.out.cells.2.2.1
    refine wpAnyH_ready (rs := [4]) (by kernel_rfl) (by simp) (AllReadyH.cons rfl (fun K1 hK1 => ?_) AllReadyH.nil)
    go_simp
    refine hK1.out _ _ R5e.out (fun hH => ?_)
    clear hK1 c2
    refine wpAnyH_ready (rs := [7]) (by kernel_rfl) (by simp) (AllReadyH.cons rfl (fun K1 hK1 => ?_) AllReadyH.nil)
    refine Ek.stepApp KE (by rfl) _ _ (by rfl) _ L (by rfl) X6.out.own ⟨g6, 0, none⟩ x (by rfl) N6.out (by have := HN.out; show (L.length + 1) * 120 ≤ _; omega) (by have := HN.out; unfold maxLen; omega) ?_
    intro v' V6 ho hon
    have YY := hide (X6.out.setL hon ho)
    have HON := hide hon
    have R5f := hide ((hon.grown.block _ (lt_heap R5e.out) (by intro e; have h9 := (HX.out.own.lt _ e.symm); omega)).trans R5e.out)
    obtain ⟨ao', cap', rfl⟩ := ho.form
    clear ho hon
    generalize (L ++ [x]).length = NN at *
    refine hK1.out _ _ R5f.out (fun hH => ?_)
    clear hK1
    change wpAnyH _ _ _ _ _ _ _ (Act.put _ (some 42) _) _
    simp only [Act.put, List.setIfInBounds_toArray, List.set_cons_zero, List.set_cons_succ]
    refine wpAnyH_take (i := 8) (v := (.pointer (some ⟨gx, 0, none⟩))) rfl (by kernel_rfl) (by kernel_rfl) (by kernel_rfl) (fun _ _ _ h => h) (.inl ⟨by rfl, fun W _ => by go_simp⟩) hH ?_
    change wpAnyH _ _ _ _ _ _ _ (Act.put _ (some 43) _) _
    simp only [Act.put, List.setIfInBounds_toArray, List.set_cons_zero, List.set_cons_succ]
    refine wpAnyH_take (i := 9) (v := (.pointer (some ⟨gx, 2, none⟩))) rfl (by kernel_rfl) (by kernel_rfl) (by kernel_rfl) (fun _ _ _ h => h) (.inl ⟨by rfl, fun W _ => by go_simp⟩) hH ?_
    change wpAnyH _ _ _ _ _ _ _ (Act.put _ (some 44) _) _
    simp only [Act.put, List.setIfInBounds_toArray, List.set_cons_zero, List.set_cons_succ]
    have c2 : V6.cell? ⟨gx, 2, none⟩ = some (.slice ao L.length cap) := by rw [cell_of_row _ _ _ _ _ _ YY.out.1]; rfl
    have f2 := frozen_of_row V6 gx 2 _ _ YY.out.1
    have R5g := hide ((Below.heap_setCell V6 ⟨gx, 2, none⟩ (.slice ao' NN cap') _ NE4.out.2.2).trans R5f.out)
    refine wpAnyH_ready (rs := [10]) (by kernel_rfl) (by simp) (AllReadyH.cons rfl (fun K1 hK1 => ?_) AllReadyH.nil)
    go_simp
    refine hK1.out _ _ ?_ (fun hH => ?_)
    · exact R5g.out
    clear hK1
    refine wpAnyH_done (by kernel_rfl) ?_ _
    clear hH
    go_wp2
    exact bodyPost_end (results_none (by kernel_rfl) _ _ _) rfl ⟨rfl, _, YY.out.2, ((((Fr.of_below BV1.out).next DW1.out).trans' (Fr.of_grown G4.out (fun g e => by cases e; exact .inr (.inl rfl)))).next D6.out).trans' ((Fr.of_grown HON.out.grown (fun g e => .inr (.inr e))).trans' (Fr.setCell V6 (p := ⟨gx, 2, none⟩) (.inl rfl) _))⟩
end
end Go.Proofs.YtpffaaalncdjcaaGreatDoor
namespace Go.Proofs.YtpffaaalncdjcaaGreatDoor
open Go.RowKit
open Go.Deep
open Go.Maps
set_option linter.unusedVariables false
/-- A journal's own blocks. -/
def jsI (T : Nat → Prop) (gj : Nat) (v : Value) : Nat → Prop := fun g => T g ∨ g = gj ∨ v.ownBlock = some g
def nmI : ByteArray := ⟨#[105, 110, 100, 101, 120]⟩
theorem okI : okJ nmI = true := by decide +kernel
section
variable {K : Nat → Prop} {B w W : World} {gj gd : Nat} {J : Jr} {x : StD} {T : Nat → Prop} {v : Value}
theorem kb_jsI (h : JB K B w gj gd J x T v) (hK : KB K B) : KB (jsI T gj v) w := by
  refine ⟨hK.at_ h.bel, fun c => ?_⟩
  have up : K 0 ∨ B.heap.size ≤ 0 := by
    rcases c with c | c | c
    · exact h.far _ c
    · exact c ▸ h.jfar
    · exact (h.vfar _ c).1
  rcases up with c | c
  · exact hK.2 c
  · have := hK.1.lt
    omega
theorem JB.hereI (h : JB K B w gj gd J x T v) : JB (jsI T gj v) w w gj gd J x T v := h.here
theorem jsI_far (h : JB K0 B w gj gd J x T v) {g : Nat} (c : jsI T gj v g) : B.heap.size ≤ g := by
  rcases c with c | c | c
  · exact (h.far _ c).resolve_left id
  · exact c ▸ h.jfar.resolve_left id
  · exact (h.vfar _ c).1.resolve_left id
theorem jsI_lt (h : JB K B w gj gd J x T v) {g : Nat} (c : jsI T gj v g) : g < w.heap.size := by
  rcases c with c | c | c
  · exact h.dk.lt _ c
  · exact c ▸ h.lt
  · exact h.own.lt _ c
end
/-- An index's loose records, one more. -/
theorem Xm.setN {B W : World} {gx gm gj n : Nat} {D : DataW Unit} {ve : Value} {L : List En} {lo : Int} (h : Xm B W gx gm gj n D ve L lo) (k : Int) : Xm B (W.setCell ⟨gx, 3, none⟩ (.int .i64 k)) gx gm gj n D ve L k := by
  have hb : ∀ q, q ≠ gx → (W.setCell ⟨gx, 3, none⟩ (.int .i64 k)).heap[q]? = W.heap[q]? := fun q hq => Below.heap_setCell _ _ _ _ hq
  have hsz : (W.setCell ⟨gx, 3, none⟩ (.int .i64 k)).heap.size = W.heap.size := by simp [World.setCell]
  have hx := h.bx
  exact ⟨heap_setCell_same W gx 3 _ _ _ h.row, ownsMap_of_block h.map (hb gm (Ne.symm h.ne)), h.own.of_block fun q hq => hb q (h.be q hq).2.1, ⟨h.bel.os, h.bel.tape, h.bel.output, by rw [hsz]; exact h.bel.size, fun q hq => (hb q (by omega)).trans (h.bel.block q hq)⟩, h.bx, h.bm, h.ne, h.be⟩
section
set_option maxRecDepth 10000
set_option maxHeartbeats 4000000
theorem put_first {B w : World} {gx gm gj gd : Nat} {T : Nat → Prop} (hK : Kg B) (h : Xm B w gx gm gj 0 (.map []) (.slice none 0 0) [] 0) (j : JB K0 B w gj gd ⟨nmI, 0, [], 0, false⟩ (xo nmI) T (.slice none 0 0)) (hx : ¬ jsI T gj (.slice none 0 0) gx) (hmn : ¬ jsI T gj (.slice none 0 0) gm) (x : En) (hm : x.may = true) (h0 : x.ht = 0) : Calls Tryz.prog 28 #[.pointer (some ⟨gx, 0, none⟩), .agg x.cells.toArray] w fun e w' => e = .returned (.int .i64 0) ∧ ∃ v', Xm B w' gx gm gj 1 ((DataW.map []).put (.string x.h.id) (.lit (.int .i64 0))) v' [x] 1 ∧ Fr (fun g => g = gx ∨ g = gm ∨ jsI T gj (.slice none 0 0) g) w w' := by
  have b1 := (Below.refl w.heap.size w).alloc (Nat.le_refl _) (.cells x.cells.toArray 28)
  have R1 := hide (heap_alloc_last w (.cells x.cells.toArray 28))
  have B1 := hide b1
  have X1 := hide (h.next b1)
  have J1 := hide (j.next b1)
  have HB := hide fun W => bytes_yes x hm W
  have KW : Hid (∀ W, Xm B W gx gm gj 0 (.map []) (.slice none 0 0) [] 0 → Kg W) := fun W q => hK.next q.bel
  have HI := hide fun W k => hid_any x.h W k
  have IL := hide x.h.id_len
  have HF := hide fun W (q : Xm B W gx gm gj 0 (.map []) (.slice none 0 0) [] 0) => fits_new q x.h.id x.h.id_len 0 rfl rfl (by simp) x h0
  have HKP := hide fun W (q : Xm B W gx gm gj 0 (.map []) (.slice none 0 0) [] 0) => keep_new q x.h.id x.h.id_len 0 rfl rfl (by simp) (by omega) x
  have HL : ((xo nmI).now.at (lsD nmI)).length = 20 := by rw [at_xo, headL_len]
  have HA : Hid (∀ W, JB K0 B W gj gd ⟨nmI, 0, [], 0, false⟩ (xo nmI) T (.slice none 0 0) → Calls Tryz.prog 24 #[.pointer (some ⟨gj, 0, none⟩), .string (txt x.bytes)] W fun e w' => e = .returned (.int .i64 0) ∧ Fr (jsI T gj (.slice none 0 0)) W w') := fun W q => by
    have := add_ok q.hereI (kb_jsI q ⟨hK, id⟩) (txt x.bytes) rfl (by rw [txt_sz, x.bytes_len]; omega) (by unfold U64; decide) (by decide) (vd_xo okI) rfl (rdyJ rfl okI) (by show ((xo nmI).now.at (lsD nmI)).length + _ ≤ _; rw [HL, txt_sz, x.bytes_len]; omega) (bg_get _ _) (by decide) (by decide)
    refine this.mono ?_
    rintro e w' ⟨rfl, T', v', j'⟩
    exact ⟨rfl, j'.bel⟩
  have XZ := hide x.size
  have HJ := hide j
  have NX := hide (And.intro hx hmn)
  have RH : Hid (∀ W : World, W.heap[w.heap.size]? = some (.cells x.cells.toArray 28 (0, 0)) → W.rangeAt w.heap.size 0 x.h.cells) := fun W e => (x.row e).1
  clear b1 hm h0 HL hx hmn j h
  generalize x.cells.toArray = C at *
  generalize hI : x.h.id = I at *
  generalize hT : txt x.bytes = TX at *
  clear hI hT
  go_enter Tryz.func28, Tryz.ntmps28
  go_upto_region 1 with ((with_reducible refine at_list ?_); refine wpList_boxA rfl _ rfl C rfl ?_)
  generalize w.alloc (.cells C 28) = W0 at *
  go_upto_region 6 with (first | (go_at_call 7; refine (HB.out _).mono ?_; rintro r W1 ⟨rfl, be⟩; have D1 := hide be; clear be) | ((with_reducible refine at_list ?_); refine wpList_loadS AEn _ rfl w.heap.size rfl C XZ.out 28 R1.out (by rfl) ?_))
  have R2 := hide ((D1.out.block _ (lt_heap R1.out)).trans R1.out)
  have X2 := hide (X1.out.next D1.out)
  have rh := hide (RH.out _ R2.out)
  go_upto_region 7 with (first | (go_at_call 40; refine (HI.out _ (KW.out _ X2.out)).mono ?_; rintro r W2 ⟨rfl, be⟩; have D2 := hide (below_next D1.out be); clear be) | ((with_reducible refine at_list ?_); first | refine wpLoadHd _ rfl w.heap.size 0 rfl x.h rh.out (by rfl) ?_ | refine wpList_allocA A25 rfl rfl ?_ | refine wpList_store_newA A25 rfl _ _ rfl _ rfl (hc I) (by rw [hc_size, IL.out]) (hc_one _) rfl rfl ?_))
  have b3 := (Below.refl W2.heap.size W2).alloc (Nat.le_refl _) (.cells (hc I) 24)
  have D3 := hide (below_next D2.out b3)
  have R7 := hide (heap_alloc_last W2 (.cells (hc I) 24))
  have IZ : Hid ((hc I).size = 32) := by show _ = _; rw [hc_size, IL.out]
  have LT7 : Hid (w.heap.size < W2.heap.size) := by
    show _ < _
    have h1 := lt_heap R1.out
    have h2 := D2.out.size
    omega
  clear b3 D1 D2 X2 R2 rh HB HI
  generalize W2.alloc (.cells (hc I) 24) = W3 at *
  generalize W2.heap.size = g7 at *
  have X3 := hide (X1.out.next D3.out)
  have R3 := hide ((D3.out.block _ (lt_heap R1.out)).trans R1.out)
  have F3 : Hid (Fr (fun g => g = gx ∨ g = gm ∨ jsI T gj (.slice none 0 0) g) w W3) := (Fr.of_below B1.out).next D3.out
  have J3 := hide (J1.out.next D3.out)
  clear X1 R1 B1 J1 D3
  go_upto_region 10 with (first | (go_at_call 64; refine (HF.out _ X3.out).mono ?_; rintro r W4 ⟨rfl, be⟩; have D4 := hide be; clear be) | ((with_reducible refine at_list ?_); first | refine wpList_loadS A25 _ rfl g7 rfl (hc I) IZ.out 24 R7.out (by rfl) ?_ | refine wpList_loadS AEn _ rfl w.heap.size rfl C XZ.out 28 R3.out (by rfl) ?_))
  have X4 := hide (X3.out.next D4.out)
  have R3b := hide ((D4.out.block _ (lt_heap R3.out)).trans R3.out)
  have R7b := hide ((D4.out.block _ (lt_heap R7.out)).trans R7.out)
  have F4 := hide (F3.out.next D4.out)
  have J4 := hide (J3.out.next D4.out)
  clear X3 R3 R7 F3 J3 D4
  have c0 := X4.out.cells.1
  go_upto_region 13 with (go_at_call 24; refine (HA.out _ J4.out).mono ?_; rintro r W5 ⟨rfl, fr⟩; have A5 := hide fr; clear fr)
  have X5 := hide (X4.out.fr A5.out fun g c => ⟨jsI_far HJ.out c, fun e => NX.out.1 (e ▸ c), fun e => NX.out.2 (e ▸ c), fun e => by cases e⟩)
  have R3c := hide ((A5.out.block _ (lt_heap R3b.out) fun c => by have := jsI_lt HJ.out c; omega).trans R3b.out)
  have R7c := hide ((A5.out.block _ (lt_heap R7b.out) fun c => by have h1 := jsI_lt HJ.out c; have h2 := LT7.out; omega).trans R7b.out)
  have F5 := hide (F4.out.trans' (A5.out.mono fun g c => .inr (.inr c)))
  clear c0 X4 R3b R7b F4 J4 A5
  go_upto_region 14 with (first | (go_at_call 65; refine (HKP.out _ X5.out).mono ?_; rintro r W6 ⟨rfl, v6, x6, f6⟩; have X6 := hide x6; have F6 := hide (F5.out.trans' (f6.mono fun g c => by rcases c with c | c | c; exact .inl c; exact .inr (.inl c); cases c)); clear x6 f6) | ((with_reducible refine at_list ?_); first | refine wpList_loadS A25 _ rfl g7 rfl (hc I) IZ.out 24 R7c.out (by rfl) ?_ | refine wpList_loadS AEn _ rfl w.heap.size rfl C XZ.out 28 R3c.out (by rfl) ?_))
  have c3 := X6.out.cells.2.2.2
  have f3 := frozen_of_row W6 gx 3 _ _ X6.out.row
  go_wp2
  go_ret
  exact ⟨rfl, v6, X6.out.setN 1, F6.out.trans' (Fr.setCell W6 (p := ⟨gx, 3, none⟩) (.inl rfl) _)⟩
end
end Go.Proofs.YtpffaaalncdjcaaGreatDoor
namespace Go.Proofs.YtpffaaalncdjcaaGreatDoor
open Go.RowKit
open Go.Deep
open Go.Maps
set_option linter.unusedVariables false
theorem make13 (w : World) : (Instr.makeMap 105 none).run Tryz.prog w = .ok (.map (some w.heap.size)) (w.alloc (.map #[] 0)) := by
  have ht := Tryz.underlying105
  unfold Instr.makeMap
  simp [newObj]
  rfl
section
set_option maxRecDepth 10000
set_option maxHeartbeats 4000000
theorem loadI_none (vx : Value) (ao : Option Addr) (cap : Nat) (w : World) : Calls Tryz.prog 45 #[vx, .slice ao 0 cap] w fun e w' => e = .returned (.int .i64 0) ∧ w' = w := by
  go_enter Tryz.func45, Tryz.ntmps45
  go_wp2
  go_loopw [14] (fun c wr => c = .int .i64 0 ∧ wr = w) (fun _ _ => 0)
  case atStart => exact ⟨rfl, rfl⟩
  case round =>
    obtain ⟨rfl, rfl⟩ := hrel
    go_wp2
    go_ret
    exact ⟨rfl, rfl⟩
theorem cutBehind_all {K : Nat → Prop} {B w : World} {gj gd : Nat} {J : Jr} {x : StD} {T : Nat → Prop} {v : Value} (h : JB K B w gj gd J x T v) : Calls Tryz.prog 46 #[.pointer (some ⟨gj, 0, none⟩), .int .i64 (J.recs.length : Int)] w fun e w' => e = .returned (.int .i64 0) ∧ w' = w := by
  have HL := hide (lenJ_any h)
  clear h
  generalize (J.recs.length : Int) = N at *
  go_enter Tryz.func46, Tryz.ntmps46
  go_wp2_with (go_at_call 53; refine HL.out.mono ?_; rintro e w1 ⟨rfl, hw⟩; subst w1)
  go_ret
  exact ⟨rfl, rfl⟩
theorem openI_nil (nm : ByteArray) (w : World) : Calls Tryz.prog 15 #[.pointer none, .string nm] w fun e w' => e = .returned (.tuple #[.pointer none, .int .i64 0, .int .i64 1]) ∧ w' = w := by
  have HO := hide (open_nil nm w)
  go_enter Tryz.func15, Tryz.ntmps15
  go_wp2_with (go_at_call 21; refine HO.out.mono ?_; rintro e w1 ⟨rfl, hw⟩; subst w1)
  go_ret3
  exact ⟨rfl, rfl⟩
def gE : En := ⟨gH.at 1, 0, 3, 0, 0, 0⟩
theorem gE_may : gE.may = true := by decide
theorem bld_hE (h : Hd) (W : World) : (Instr.build 28 #[(0, .agg h.cells.toArray), (2, .int .i64 3)]).run Tryz.prog W = .ok (.agg (⟨h, 0, 3, 0, 0, 0⟩ : En).cells.toArray) W := by
  obtain ⟨v, p, r, t, b, o, hp, hr⟩ := h
  obtain ⟨_, _, _, _, _, _, _, _, _, _, _, _, _, _, _, _, _, _, _, _, _, _, _, _, _, _, _, _, _, _, _, _, rfl⟩ := id32' p hp
  obtain ⟨_, _, _, _, _, _, _, _, _, _, _, _, _, _, _, _, _, _, _, _, _, _, _, _, _, _, _, _, _, _, _, _, rfl⟩ := id32' r hr
  kernel_rfl
theorem bld_gE (W : World) : (Instr.build 28 #[(0, .agg (gH.at 1).cells.toArray), (2, .int .i64 3)]).run Tryz.prog W = .ok (.agg gE.cells.toArray) W := bld_hE (gH.at 1) W
end
end Go.Proofs.YtpffaaalncdjcaaGreatDoor
