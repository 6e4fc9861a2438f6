/- A tree: ancestor (of a node that is not above the height), At; the calls of a nil tree: their contracts. Locators: Heights of 0, Make of genesis, the law's awake: their contracts. The calls of locate on a nil tree: their contracts. Missing on a nil tree; Make of a tree of one node; the law's awake: their contracts. Make of a tree of one node; the law's awake; LocateNil's walk. -/
import Derived.Test.YtofddbjnncgmlaaGreatDoorX37
import Derived.Defers
namespace Go.Proofs.YtofddbjnncgmlaaGreatDoor
open Go.RowKit
open Go.Deep
open Go.Maps
set_option linter.unusedVariables false
set_option linter.unusedSimpArgs false
theorem ld25_14 {W : World} {g off : Nat} {y : List UInt8} (hy : y.length = 32) (hr : W.rangeAt g off (cellsL y)) : (Instr.loadAt 46 (.pointer (some ⟨g, off, none⟩))).run Tryz.prog W = .ok (.agg (hc y)) W :=
  run_loadAt_mid W g off 46 _ _ hr Tryz.underlying46 rfl (by rw [cellsL_len, hy]; kernel_rfl)
theorem Tm4.put {B W : World} {gt gm n : Nat} {D : DataW Unit} {ve : Value} {L : List Tno} {tu be bh : Nat} (h : Tm4 B W gt gm n D ve L tu be bh) {W0 : World} {g : Nat} (h0 : Tm4 B W0 gt gm n D ve L tu be bh) (hg : W0.heap.size ≤ g) (cs : Array Value) : Tm4 B (W.setRow g cs) gt gm n D ve L tu be bh :=
  h.fr (S := fun q => q = g) ⟨rfl, rfl, rfl, by simp, fun k _ hn => setRow_other W g k cs hn⟩ (fun q e => by
    subst e
    refine ⟨Nat.le_trans h0.bel.size hg, ?_, ?_, ?_⟩
    · have := lt_heap h0.row; omega
    · have := h0.map.lt; omega
    · intro e; have := h0.own.lt _ e; omega)
section
set_option maxRecDepth 10000
set_option maxHeartbeats 4000000
theorem anc_here {B w : World} {gt gm n : Nat} {D : DataW Unit} {ve : Value} {L : List Tno} {tu be bh : Nat} (h : Tm4 B w gt gm n D ve L tu be bh) (hm : L.length ≤ 1000000) (k : Nat) (hk : k < L.length) (ht : Int) (hh : (L[k].ht : Int) ≤ ht) : Calls Tryz.prog 246 #[.pointer (some ⟨gt, 0, none⟩), .int .i64 (k : Int), .int .i64 ht] w fun e w' => e = .returned (.int .i64 (k : Int)) ∧ Below w.heap.size w w' := by
  obtain ⟨ao, cap, rfl⟩ := h.own.form
  obtain ⟨ge, oe, rfl⟩ := h.own.read.base (by omega)
  have c1 := h.cells.2.1
  have c2 : w.cell? ⟨ge, oe + k * 114 + 100, none⟩ = some (.int .i64 (L[k].ht : Int)) := L[k].cht (h.own.read.range k hk)
  have h1 : (k : Int) < (L.length : Int) := by omega
  have h2 : (0 : Int) ≤ (k : Int) := by omega
  have h3 : ¬ (L[k].ht : Int) > ht := by omega
  have h4 : ¬ ht < (L[k].ht : Int) := by omega
  clear h hm hh
  generalize L[k].ht = z at *
  clear hk
  go_enter Tryz.func246, Tryz.ntmps246
  go_wp2
  go_loopw [1] (fun i wr => i = .int .i64 (k : Int) ∧ wr = w) (fun _ _ => 0)
  case atStart => exact ⟨rfl, rfl⟩
  case round =>
    obtain ⟨rfl, rfl⟩ := hrel
    go_wp2
    go_ret
    exact ⟨rfl, Below.refl _ _⟩
theorem atT_of {B w : World} {gt gm n : Nat} {D : DataW Unit} {ve : Value} {L : List Tno} {tu be bh : Nat} (h : Tm4 B w gt gm n D ve L tu be bh) (l : List UInt8) (hl : l.length = 32) (k : Nat) (hk : k < L.length) (hm : L.length ≤ 1000000) (hat : D.atKey (.string l) (.lit (.int .i64 0)) = .lit (.int .i64 (k : Int))) (hh : Maps.has D (.string l) = true) (ht k' : Nat) (hz : ht ≤ L[k].ht) (hk' : k' < L.length)
    (HA : ∀ W, Tm4 B W gt gm n D ve L tu be bh → Calls Tryz.prog 246 #[.pointer (some ⟨gt, 0, none⟩), .int .i64 (k : Int), .int .i64 (ht : Int)] W fun e w' => e = .returned (.int .i64 (k' : Int)) ∧ Below W.heap.size W w') :
    Calls Tryz.prog 184 #[.pointer (some ⟨gt, 0, none⟩), .agg (hc l), .int .i64 (ht : Int)] w fun e w' => e = .returned (.tuple #[.agg (hc L[k'].id), .bool true]) ∧ Below w.heap.size w w' := by
  have s1 : (w.alloc (.cells (hc l) 46)).heap.size = w.heap.size + 1 := by simp
  have R3 := hide ((Below.heap_alloc _ (.cells (hc zeros) 46) _ (lt_heap (heap_alloc_last w (.cells (hc l) 46)))).trans (heap_alloc_last w (.cells (hc l) 46)))
  have R4 := hide (heap_alloc_last (w.alloc (.cells (hc l) 46)) (.cells (hc zeros) 46))
  have b1 := ((Below.refl w.heap.size w).alloc (Nat.le_refl _) (.cells (hc l) 46)).alloc (by rw [s1]; omega) (.cells (hc zeros) 46)
  have B1 := hide b1
  have X1 := hide (h.next b1)
  obtain ⟨ao, cap, rfl⟩ := h.own.form
  obtain ⟨ge, oe, rfl⟩ := h.own.read.base (by omega)
  have H0 := hide h
  have HF : Hid (∀ W, Tm4 B W gt gm n D (.slice (some ⟨ge, oe, none⟩) L.length cap) L tu be bh → Calls Tryz.prog 78 #[.pointer (some ⟨gt, 0, none⟩), .agg (hc l)] W fun e w' => e = .returned (.tuple #[.int .i64 (k : Int), .bool true]) ∧ Below W.heap.size W w') := fun W x => by
    have := findT_any x l hl k hat
    rw [hh] at this
    exact this
  have HAn := hide HA
  have LH : Hid (∀ W, Tm4 B W gt gm n D (.slice (some ⟨ge, oe, none⟩) L.length cap) L tu be bh → W.cell? ⟨ge, oe + k * 114 + 100, none⟩ = some (.int .i64 (L[k].ht : Int))) := fun W x => L[k].cht (x.own.read.range k hk)
  have LI : Hid (∀ W, Tm4 B W gt gm n D (.slice (some ⟨ge, oe, none⟩) L.length cap) L tu be bh → W.rangeAt ge (oe + k' * 114) (cellsL L[k'].id)) := fun W x => L[k'].rid (x.own.read.range k' hk')
  have CZ : Hid ((hc l).size = 32) := by show _ = _; rw [hc_size, hl]
  have h1 : (k : Int) < (L.length : Int) := by omega
  have h2 : (0 : Int) ≤ (k : Int) := by omega
  have h3 : ¬ (ht : Int) < 0 := by omega
  have h4 : ¬ (ht : Int) > (L[k].ht : Int) := by omega
  have h4' : ¬ (L[k].ht : Int) < (ht : Int) := by omega
  have h5 : (k' : Int) < (L.length : Int) := by omega
  have h6 : (0 : Int) ≤ (k' : Int) := by omega
  have IZ := hide (And.intro (show (hc L[k'].id).size = 32 by rw [hc_size, L[k'].hi]) (hc_one L[k'].id))
  have HI := hide L[k'].hi
  have ZZ := hide (And.intro (show (hc zeros).size = 32 by rw [hc_size, zeros_len]) (hc_one zeros))
  rw [s1] at R4
  clear b1 hat hh h hm HA hz
  generalize hc l = C at *
  generalize L[k].ht = z at *
  generalize L[k'].id = I at *
  clear hk hk'
  go_enter Tryz.func184, Tryz.ntmps184
  go_upto_region 1 with ((with_reducible refine at_list ?_); first | refine wpList_boxA rfl _ rfl C rfl ?_ | refine wpList_allocA A25 rfl rfl ?_)
  try rw [s1]
  clear s1
  generalize (w.alloc (.cells C 46)).alloc (.cells (hc zeros) 46) = W0 at *
  go_upto_region 2 with (first | (go_at_call 78; refine (HF.out _ X1.out).mono ?_; rintro e W1 ⟨rfl, be⟩; have D1 := hide be; clear be) | ((with_reducible refine at_list ?_); refine wpList_loadS A25 _ rfl w.heap.size rfl C CZ.out 46 R3.out (by rfl) ?_))
  have R5 := hide ((D1.out.block _ (lt_heap R4.out)).trans R4.out)
  have X2 := hide (X1.out.next D1.out)
  have B2 := hide (below_next B1.out D1.out)
  have c1 := X2.out.cells.2.1
  have c2 := LH.out _ X2.out
  go_upto_region 4 with fail
  clear c1 c2 R3 R4 D1 X1 HF LH
  have DV1 := hide ((Below.refl W1.heap.size W1).drew)
  refine wp_region_held_drew (S := fun W => Tm4 B W gt gm n D (.slice (some ⟨ge, oe, none⟩) L.length cap) L tu be bh) (by kernel_rfl) (X2.out.next DV1.out) (fun hH => ?_)
  have R6 := hide ((DV1.out.block _ (lt_heap R5.out)).trans R5.out)
  have B3 := hide (below_next B2.out DV1.out)
  generalize hWd : W1.drew = V1 at *
  clear hWd
  refine wpAnyH_take (i := 0) (v := (.pointer (some ⟨gt, 0, none⟩))) rfl (by kernel_rfl) (by kernel_rfl) (by kernel_rfl) (fun _ _ _ h => h) (yl_move (by rfl) _ (by rfl) _ (by rfl)) hH ?_
  change wpAnyH _ _ _ _ _ _ _ (Act.put _ (some 36) _) _
  simp only [Act.put, List.setIfInBounds_toArray, List.set_cons_zero, List.set_cons_succ]
  refine wpAnyH_take (i := 1) (v := (.pointer (some ⟨gt, 0, none⟩))) rfl (by kernel_rfl) (by kernel_rfl) (by kernel_rfl) (fun _ _ _ h => h) (.inl ⟨by rfl, fun W _ => by go_simp⟩) hH ?_
  change wpAnyH _ _ _ _ _ _ _ (Act.put _ (some 37) _) _
  simp only [Act.put, List.setIfInBounds_toArray, List.set_cons_zero, List.set_cons_succ]
  refine wpAnyH_take (i := 2) (v := (.pointer (some ⟨gt, 1, none⟩))) rfl (by kernel_rfl) (by kernel_rfl) (by kernel_rfl) (fun _ _ _ h => h) (.inl ⟨by rfl, fun W _ => by go_simp⟩) hH ?_
  change wpAnyH _ _ _ _ _ _ _ (Act.put _ (some 38) _) _
  simp only [Act.put, List.setIfInBounds_toArray, List.set_cons_zero, List.set_cons_succ]
  refine wpAnyH_take (i := 3) (v := (.slice (some ⟨ge, oe, none⟩) L.length cap)) rfl (by kernel_rfl) (by kernel_rfl) (by kernel_rfl) (fun _ _ _ h => h) (.inl ⟨by rfl, fun W hS => by have c4 := hS.cells.2.1; go_simp⟩) hH ?_
  change wpAnyH _ _ _ _ _ _ _ (Act.put _ (some 39) _) _
  simp only [Act.put, List.setIfInBounds_toArray, List.set_cons_zero, List.set_cons_succ]
  refine wpAnyH_take (i := 4) (v := (.pointer (some ⟨gt, 0, none⟩))) rfl (by kernel_rfl) (by kernel_rfl) (by kernel_rfl) (fun _ _ _ h => h) (yl_move (by rfl) _ (by rfl) _ (by rfl)) hH ?_
  change wpAnyH _ _ _ _ _ _ _ (Act.put _ (some 40) _) _
  simp only [Act.put, List.setIfInBounds_toArray, List.set_cons_zero, List.set_cons_succ]
  refine wpAnyH_take (i := 5) (v := (.int .i64 (k : Int))) rfl (by kernel_rfl) (by kernel_rfl) (by kernel_rfl) (fun _ _ _ h => h) (yl_move (by rfl) _ (by rfl) _ (by rfl)) hH ?_
  change wpAnyH _ _ _ _ _ _ _ (Act.put _ (some 41) _) _
  simp only [Act.put, List.setIfInBounds_toArray, List.set_cons_zero, List.set_cons_succ]
  refine wpAnyH_take (i := 6) (v := (.int .i64 (ht : Int))) rfl (by kernel_rfl) (by kernel_rfl) (by kernel_rfl) (fun _ _ _ h => h) (yl_move (by rfl) _ (by rfl) _ (by rfl)) hH ?_
  change wpAnyH _ _ _ _ _ _ _ (Act.put _ (some 42) _) _
  simp only [Act.put, List.setIfInBounds_toArray, List.set_cons_zero, List.set_cons_succ]
  refine wpAnyH_ready (rs := [7]) (by kernel_rfl) (by simp) (AllReadyH.cons rfl (fun K1 hK1 => ?_) AllReadyH.nil)
  go_simp
  refine (HAn.out V1 hH).mono ?_
  rintro r V2 ⟨rfl, be⟩
  have X3 := hide (hH.next be)
  have R7 := hide ((be.block _ (lt_heap R6.out)).trans R6.out)
  have B4 := hide (below_next B3.out be)
  clear be
  refine hK1.out _ _ X3.out (fun hH => ?_)
  clear hK1
  refine wpAnyH_take (i := 8) (v := (.pointer (some ⟨ge, oe + k' * 114, none⟩))) rfl (by kernel_rfl) (by kernel_rfl) (by kernel_rfl) (fun _ _ _ h => h) (.inl ⟨by rfl, fun W _ => by go_simp⟩) hH ?_
  change wpAnyH _ _ _ _ _ _ _ (Act.put _ (some 44) _) _
  simp only [Act.put, List.setIfInBounds_toArray, List.set_cons_zero, List.set_cons_succ]
  refine wpAnyH_take (i := 9) (v := (.pointer (some ⟨ge, oe + k' * 114, none⟩))) rfl (by kernel_rfl) (by kernel_rfl) (by kernel_rfl) (fun _ _ _ h => h) (.inl ⟨by rfl, fun W _ => by go_simp⟩) hH ?_
  change wpAnyH _ _ _ _ _ _ _ (Act.put _ (some 45) _) _
  simp only [Act.put, List.setIfInBounds_toArray, List.set_cons_zero, List.set_cons_succ]
  refine wpAnyH_take (i := 10) (v := (.pointer (some ⟨ge, oe + k' * 114, none⟩))) rfl (by kernel_rfl) (by kernel_rfl) (by kernel_rfl) (fun _ _ _ h => h) (.inl ⟨by rfl, fun W _ => by go_simp⟩) hH ?_
  change wpAnyH _ _ _ _ _ _ _ (Act.put _ (some 46) _) _
  simp only [Act.put, List.setIfInBounds_toArray, List.set_cons_zero, List.set_cons_succ]
  refine wpAnyH_take (i := 11) (v := (.agg (hc I))) rfl (by kernel_rfl) (by kernel_rfl) (by kernel_rfl) (fun _ _ _ h => h) (yl_load (by rfl) _ (by rfl) _ (hc I) (by rfl) (fun W hS => ld25_14 HI.out (LI.out W hS))) hH ?_
  change wpAnyH _ _ _ _ _ _ _ (Act.put _ (some 47) _) _
  simp only [Act.put, List.setIfInBounds_toArray, List.set_cons_zero, List.set_cons_succ]
  refine wpAnyH_ready (rs := [12]) (by kernel_rfl) (by simp) (AllReadyH.cons rfl (fun K1 hK1 => ?_) AllReadyH.nil)
  refine stepStoreA A25 (by rfl) _ _ (by rfl) (w.heap.size + 1) (hc I) IZ.out.1 IZ.out.2 (by rfl) (by rfl) (hc zeros) ZZ.out.1 _ R7.out ?_
  refine hK1.out _ _ (X3.out.put H0.out (by omega) _) (fun hH => ?_)
  clear hK1
  change wpAnyH _ _ _ _ _ _ _ (Act.put _ none _) _
  simp only [Act.put]
  refine wpAnyH_take (i := 13) (v := (.bool true)) rfl (by kernel_rfl) (by kernel_rfl) (by kernel_rfl) (fun _ _ _ h => h) (.inl ⟨by rfl, fun W _ => by go_simp⟩) hH ?_
  change wpAnyH _ _ _ _ _ _ _ (Act.put _ (some 7) _) _
  simp only [Act.put, List.setIfInBounds_toArray, List.set_cons_zero, List.set_cons_succ]
  refine wpAnyH_done (by kernel_rfl) ?_ _
  go_wp2
  exact bodyPost_ret (v := .tuple #[.agg (hc I), .bool true]) (resA2K A25 Tryz.results184 _ _ (w.heap.size + 1) 46 _ IZ.out.1 rfl (setRow_heap _ _ _ _ _ _ R7.out) _ rfl) rfl ⟨rfl, below_setRow B4.out (by omega) _⟩
end
end Go.Proofs.YtofddbjnncgmlaaGreatDoor
namespace Go.Proofs.YtofddbjnncgmlaaGreatDoor
open Go.RowKit
open Go.Deep
open Go.Maps
set_option linter.unusedVariables false
set_option linter.unusedSimpArgs false
/-- Numbers as a list. -/
def KIn : Ek Int := ⟨37, 3, 1, 8, fun x => [.int .i64 x], by decide, by decide, Tryz.underlying37, by kernel_rfl, fun _ => rfl, fun x v hv => by
  rw [List.mem_singleton.1 hv]
  rfl⟩
theorem mk_h1 (W : World) : (Instr.makeSlice 40 (.int .i64 1) (.int .i64 1)).run Tryz.prog W = .ok (.slice (some ⟨W.heap.size, 0, none⟩) 1 1) (W.alloc (.cells (hc zeros) 46)) := by kernel_rfl
theorem bs_i0 (W : World) : (Instr.buildSlice 37 1 #[(0, .int .i64 0)]).run Tryz.prog W = .ok (.slice (some ⟨W.heap.size, 0, none⟩) 1 1) (W.alloc (.cells (KIn.enc 0).toArray KIn.e)) := by kernel_rfl
section
variable {w : World} {ops : Array Oper} {rest : List Oper} {o : Oper} {a : Act} {Q : Exit → Act → World → Prop}
theorem wp_bs14 (hgd : o.guard = none) (t : TypeId) (n : Nat) (y : Array (Nat × Operand)) (ho : o.op = .buildSlice t n y) (y' : Array (Nat × Value)) (hy : y.map (fun p => (p.1, a.eval p.2)) = y') (v : Value) (w1 : World) (hr : (Instr.buildSlice t n y').run Tryz.prog w = .ok v w1) (h : wpList Tryz.prog ops Q rest (a.put o.dst v) w1) : wpList Tryz.prog ops Q (o :: rest) a w := by
  refine wpList_plain hgd fun K hK => ?_
  unfold Oper.wp execOp
  simp only [ho, hy, hr, Sem.run_bind, Result.andThen_ok, Sem.run_pure]
  exact hK _ _ h
theorem wp_mks14 (hgd : o.guard = none) (t : TypeId) (x y : Operand) (ho : o.op = .makeSlice t x y) (vx vy : Value) (hx : a.eval x = vx) (hy : a.eval y = vy) (v : Value) (w1 : World) (hr : (Instr.makeSlice t vx vy).run Tryz.prog w = .ok v w1) (h : wpList Tryz.prog ops Q rest (a.put o.dst v) w1) : wpList Tryz.prog ops Q (o :: rest) a w := by
  refine wpList_plain hgd fun K hK => ?_
  unfold Oper.wp execOp
  simp only [ho, hx, hy, hr, Sem.run_bind, Result.andThen_ok, Sem.run_pure]
  exact hK _ _ h
end
section
set_option maxRecDepth 10000
set_option maxHeartbeats 4000000
theorem heights0 (w : World) : Calls Tryz.prog 183 #[.int .i64 0] w fun e w' => ∃ v, e = .returned v ∧ OX KIn w' v [0] ∧ Below w.heap.size w w' := by
  go_enter Tryz.func183, Tryz.ntmps183
  go_wp2
  go_loopw [0, 3, 4] (fun h s t wr => h = .int .i64 0 ∧ s = .slice none 0 0 ∧ wr = w) (fun _ _ _ _ => 0)
  case atStart => exact ⟨rfl, rfl, rfl⟩
  case round =>
    obtain ⟨rfl, rfl, rfl⟩ := hrel
    go_wp2_with ((with_reducible refine at_list ?_); first | refine wp_bs14 rfl _ _ _ rfl #[(0, .int .i64 0)] (by simp only [List.map_toArray, List.map_cons, List.map_nil]; rfl) _ _ (bs_i0 _) ?_ | (refine Ek.wpApp KIn rfl _ _ rfl _ [] rfl (OX.nil _) _ 1 1 [0] rfl rfl (one_newX (E := KIn) wr 0) (by show (0 + 1) * 8 ≤ _; omega) (by show 0 + 1 ≤ _; unfold maxLen; omega) ?_; intro v' w' ho hon))
    have BL : Hid (Below wr.heap.size wr w') := by
      have b1 := (Below.refl wr.heap.size wr).alloc (Nat.le_refl _) (.cells (KIn.enc 0).toArray KIn.e)
      have g := hon.grown
      exact ⟨g.os.trans b1.os, g.tape.trans b1.tape, g.output.trans b1.output, Nat.le_trans b1.size g.size, fun q hq => (g.block q (Nat.lt_of_lt_of_le hq b1.size) (fun e => by cases e)).trans (b1.block q hq)⟩
    have HO := hide ho
    clear ho hon
    obtain ⟨a3, c3, rfl⟩ := HO.out.form
    go_wp2
    go_ret
    exact ⟨_, rfl, HO.out, BL.out⟩
end
end Go.Proofs.YtofddbjnncgmlaaGreatDoor
namespace Go.Proofs.YtofddbjnncgmlaaGreatDoor
open Go.RowKit
open Go.Deep
open Go.Maps
set_option linter.unusedVariables false
set_option linter.unusedSimpArgs false
section
set_option maxRecDepth 10000
set_option maxHeartbeats 4000000
theorem atT_nil (l : List UInt8) (hl : l.length = 32) (ht : Int) (w : World) : Calls Tryz.prog 184 #[.pointer none, .agg (hc l), .int .i64 ht] w fun e w' => e = .returned (.tuple #[.agg (hc zeros), .bool false]) ∧ Below w.heap.size w w' := by
  have s1 : (w.alloc (.cells (hc l) 46)).heap.size = w.heap.size + 1 := by simp
  have R3 := hide ((Below.heap_alloc _ (.cells (hc zeros) 46) _ (lt_heap (heap_alloc_last w (.cells (hc l) 46)))).trans (heap_alloc_last w (.cells (hc l) 46)))
  have R4 := hide (heap_alloc_last (w.alloc (.cells (hc l) 46)) (.cells (hc zeros) 46))
  have B1 := hide (((Below.refl w.heap.size w).alloc (Nat.le_refl _) (.cells (hc l) 46)).alloc (by rw [s1]; omega) (.cells (hc zeros) 46))
  have CZ : Hid ((hc l).size = 32) := by show _ = _; rw [hc_size, hl]
  have HF := hide (fun W => findT_nil l hl W)
  have ZZ := hide (And.intro (show (hc zeros).size = 32 by rw [hc_size, zeros_len]) (hc_one zeros))
  rw [s1] at R4
  generalize hc l = C at *
  go_enter Tryz.func184, Tryz.ntmps184
  go_upto_region 1 with ((with_reducible refine at_list ?_); first | refine wpList_boxA rfl _ rfl C rfl ?_ | refine wpList_allocA A25 rfl rfl ?_)
  try rw [s1]
  clear s1
  generalize (w.alloc (.cells C 46)).alloc (.cells (hc zeros) 46) = W0 at *
  go_upto_region 2 with (first | (go_at_call 78; refine (HF.out _).mono ?_; rintro e W1 ⟨rfl, be⟩; have D1 := hide be; clear be) | ((with_reducible refine at_list ?_); refine wpList_loadS A25 _ rfl w.heap.size rfl C CZ.out 46 R3.out (by rfl) ?_))
  have R5 := hide ((D1.out.block _ (lt_heap R4.out)).trans R4.out)
  go_wp2_with ((with_reducible refine at_list ?_); first | refine wpList_buildA A25 rfl rfl ?_ | refine wpList_storeA A25 rfl _ _ rfl (w.heap.size + 1) (hc zeros) ZZ.out.1 ZZ.out.2 rfl rfl (hc zeros) ZZ.out.1 46 R5.out ?_)
  exact bodyPost_ret (v := .tuple #[.agg (hc zeros), .bool false]) (resA2K A25 Tryz.results184 _ _ (w.heap.size + 1) 46 _ ZZ.out.1 rfl (setRow_heap _ _ _ _ _ _ R5.out) _ rfl) rfl ⟨rfl, below_setRow (below_next B1.out D1.out) (by omega) _⟩
theorem makeL_nil (l : List UInt8) (hl : l.length = 32) (w : World) : Calls Tryz.prog 91 #[.pointer none, .agg (hc l)] w fun e w' => e = .returned (.tuple #[.slice none 0 0, .int .i64 2]) ∧ Below w.heap.size w w' := by
  have R3 := hide (heap_alloc_last w (.cells (hc l) 46))
  have B1 := hide ((Below.refl w.heap.size w).alloc (Nat.le_refl _) (.cells (hc l) 46))
  have CZ : Hid ((hc l).size = 32) := by show _ = _; rw [hc_size, hl]
  have HF := hide (fun W => getT_nil l hl W)
  have ZZ := hide (And.intro zTno.pubA_size zTno.pubA_all)
  generalize hc l = C at *
  go_enter Tryz.func91, Tryz.ntmps91
  go_upto_region 1 with ((with_reducible refine at_list ?_); refine wpList_boxA rfl _ rfl C rfl ?_)
  generalize w.alloc (.cells C 46) = W0 at *
  go_upto_region 2 with (first | (go_at_call 17; refine (HF.out _).mono ?_; rintro e W1 ⟨rfl, be⟩; have D1 := hide be; clear be) | ((with_reducible refine at_list ?_); first | refine wpList_loadS A25 _ rfl w.heap.size rfl C CZ.out 46 R3.out (by rfl) ?_ | refine wpList_allocA ANo rfl rfl ?_ | refine wpList_store_newA ANo rfl _ _ rfl _ rfl zTno.pub.toArray ZZ.out.1 ZZ.out.2 rfl rfl ?_))
  have D2 := hide (below_next D1.out ((Below.refl W1.heap.size W1).alloc (Nat.le_refl _) (.cells zTno.pub.toArray 53)))
  generalize W1.alloc (.cells zTno.pub.toArray 53) = W2 at *
  go_wp2
  go_ret2
  exact ⟨rfl, below_next B1.out D2.out⟩
end
end Go.Proofs.YtofddbjnncgmlaaGreatDoor
namespace Go.Proofs.YtofddbjnncgmlaaGreatDoor
open Go.RowKit
open Go.Deep
open Go.Maps
set_option linter.unusedVariables false
set_option linter.unusedSimpArgs false
section
set_option maxRecDepth 10000
set_option maxHeartbeats 4000000
end
end Go.Proofs.YtofddbjnncgmlaaGreatDoor
namespace Go.Proofs.YtofddbjnncgmlaaGreatDoor
open Go.RowKit
open Go.Deep
open Go.Maps
set_option linter.unusedVariables false
set_option linter.unusedSimpArgs false
theorem eqH14 (x y : List UInt8) (hx : x.length = 32) (hy : y.length = 32) (W : World) : (Op.equalIn 10000 46 (.agg (hc x)) (.agg (hc y))).run Tryz.prog W = .ok (x == y) W :=
  eqC_bytes x y 32 hx hy 46 Tryz.underlying46 9998 W
section
set_option maxRecDepth 10000
set_option maxHeartbeats 4000000
theorem make1 {B w : World} {gt gm n : Nat} {D : DataW Unit} {ve : Value} {x : Tno} {tu be bh : Nat} (h : Tm4 B w gt gm n D ve [x] tu be bh) (hat : D.atKey (.string x.id) (.lit (.int .i64 0)) = .lit (.int .i64 0)) (hh : Maps.has D (.string x.id) = true) (h0 : x.ht = 0) : Calls Tryz.prog 91 #[.pointer (some ⟨gt, 0, none⟩), .agg (hc x.id)] w fun e w' => ∃ g, e = .returned (.tuple #[.slice (some ⟨g, 0, none⟩) 1 1, .int .i64 0]) ∧ w'.heap[g]? = some (.cells (hc x.id) 46 (0, 0)) ∧ Below w.heap.size w w' := by
  have R3 := hide (heap_alloc_last w (.cells (hc x.id) 46))
  have b1 := (Below.refl w.heap.size w).alloc (Nat.le_refl _) (.cells (hc x.id) 46)
  have B1 := hide b1
  have X1 := hide (h.next b1)
  have H0 := hide h
  have CZ := hide (And.intro (show (hc x.id).size = 32 by rw [hc_size, x.hi]) (hc_one x.id))
  have HG : Hid (∀ W, Tm4 B W gt gm n D ve [x] tu be bh → Calls Tryz.prog 17 #[.pointer (some ⟨gt, 0, none⟩), .agg (hc x.id)] W fun e w' => e = .returned (.tuple #[.agg x.pub.toArray, .bool true]) ∧ Below W.heap.size W w') := fun W q => getT_yes q x.id x.hi 0 (by simp) (by simp) hat hh
  have HA : Hid (∀ W, Tm4 B W gt gm n D ve [x] tu be bh → Calls Tryz.prog 184 #[.pointer (some ⟨gt, 0, none⟩), .agg (hc x.id), .int .i64 0] W fun e w' => e = .returned (.tuple #[.agg (hc x.id), .bool true]) ∧ Below W.heap.size W w') := fun W q => atT_of q x.id x.hi 0 (by simp) (by simp) hat hh 0 0 (Nat.zero_le _) (by simp) (fun W2 q2 => anc_here q2 (by simp) 0 (by simp) 0 (by show ((x.ht : Nat) : Int) ≤ 0; omega))
  have HH := hide heights0
  have ZZ := hide (And.intro x.pubA_size x.pubA_all)
  have PH : Hid (∀ (W : World) (g : Nat), W.heap[g]? = some (.cells x.pub.toArray 53 (0, 0)) → W.cell? ⟨g, 100, none⟩ = some (.int .i64 0)) := fun W g e => by
    rw [cell_of_row _ _ _ _ _ _ e]
    have q : x.pub[100]? = some (.int .i64 (x.ht : Int)) := by
      rw [Tno.pub, List.getElem?_append_right (by rw [cellsL_len, x.hi]; omega), cellsL_len, x.hi, List.getElem?_append_right (by rw [x.h.len]; omega), x.h.len]
      rfl
    rw [h0] at q
    simpa using q
  clear b1 hat hh h h0
  generalize x.pub.toArray = PP at *
  generalize hc x.id = C at *
  go_enter Tryz.func91, Tryz.ntmps91
  go_upto_region 1 with ((with_reducible refine at_list ?_); refine wpList_boxA rfl _ rfl C rfl ?_)
  generalize w.alloc (.cells C 46) = W0 at *
  go_upto_region 2 with (first | (go_at_call 17; refine (HG.out _ X1.out).mono ?_; rintro e W1 ⟨rfl, be⟩; have D1 := hide be; clear be) | ((with_reducible refine at_list ?_); first | refine wpList_loadS A25 _ rfl w.heap.size rfl C CZ.out.1 46 R3.out (by rfl) ?_ | refine wpList_allocA ANo rfl rfl ?_ | refine wpList_store_newA ANo rfl _ _ rfl _ rfl PP ZZ.out.1 ZZ.out.2 rfl rfl ?_))
  have b2 := (Below.refl W1.heap.size W1).alloc (Nat.le_refl _) (.cells PP 53)
  have D2 := hide (below_next D1.out b2)
  have c2 := PH.out _ _ (heap_alloc_last W1 (.cells PP 53))
  clear b2 D1 HG PH
  generalize W1.alloc (.cells PP 53) = W2 at *
  generalize W1.heap.size = g6 at *
  go_upto_region 5 with (go_at_call 183; refine (HH.out _).mono ?_; rintro e W3 ⟨v3, rfl, o3, be⟩; have O3 := hide o3; have D3 := hide (below_next D2.out be); clear o3 be)
  obtain ⟨a3, c3, rfl⟩ := O3.out.form
  obtain ⟨g3, f3, rfl⟩ := O3.out.read.base (by simp)
  rw [show ([0] : List Int).length = 1 from rfl] at O3 ⊢
  clear c2 D2
  go_upto_region 6 with ((with_reducible refine at_list ?_); refine wp_mks14 rfl _ _ _ rfl (.int .i64 1) (.int .i64 1) rfl rfl _ _ (mk_h1 _) ?_)
  have b4 := (Below.refl W3.heap.size W3).alloc (Nat.le_refl _) (.cells (hc zeros) 46)
  have D4 := hide (below_next D3.out b4)
  have R4 := hide (heap_alloc_last W3 (.cells (hc zeros) 46))
  have O4 := hide (O3.out.below b4)
  have GE : Hid (W0.heap.size ≤ W3.heap.size) := D3.out.size
  have OZ : Hid (∀ W, OX KIn W (.slice (some ⟨g3, f3, none⟩) 1 c3) [0] → W.cell? ⟨g3, f3, none⟩ = some (.int .i64 0)) := fun W o => by
    have := o.read.range 0 (by simp) 0 _ rfl
    rw [Nat.zero_mul] at this
    exact this
  have NE : Hid (g3 ≠ W3.heap.size) := fun e => by have := O3.out.lt g3 rfl; omega
  clear b4 D3 O3 HH
  generalize W3.alloc (.cells (hc zeros) 46) = W4 at *
  generalize W3.heap.size = gs at *
  go_wp2
  go_loopw [28] (fun i wr => ∃ z, (i = .int .i64 0 ∨ (i = .int .i64 1 ∧ z = C)) ∧ z.size = 32 ∧ Hid (Below w.heap.size w wr ∧ Tm4 B wr gt gm n D ve [x] tu be bh ∧ wr.heap[w.heap.size]? = some (.cells C 46 (0, 0)) ∧ wr.heap[gs]? = some (.cells z 46 (0, 0)) ∧ OX KIn wr (.slice (some ⟨g3, f3, none⟩) 1 c3) [0])) (fun i _ => (1 - intOf i).toNat)
  case atStart => exact ⟨hc zeros, .inl rfl, by rw [hc_size, zeros_len], below_next B1.out D4.out, X1.out.next D4.out, (D4.out.block _ (lt_heap R3.out)).trans R3.out, R4.out, O4.out⟩
  case round =>
    obtain ⟨z, hi, hz, J⟩ := hrel
    rcases hi with rfl | ⟨rfl, rfl⟩
    · have HZz := hide hz
      have c5 := OZ.out _ J.out.2.2.2.2
      clear hz
      go_upto_region 9 with fail
      clear c5
      go_wp2_with (first | (go_at_call 184; refine (HA.out _ J.out.2.1).mono ?_; rintro e W6 ⟨rfl, be⟩; have D6 := hide be; have R6 := hide ((be.block _ (lt_heap J.out.2.2.2.1)).trans J.out.2.2.2.1); clear be) | ((with_reducible refine at_list ?_); first | refine wpList_loadS A25 _ rfl w.heap.size rfl C CZ.out.1 46 J.out.2.2.1 (by rfl) ?_ | refine wpList_storeA A25 rfl _ _ rfl gs C CZ.out.1 CZ.out.2 (by rfl) rfl z HZz.out 46 R6.out ?_))
      go_round
      case rel =>
        have LW : w.heap.size < W0.heap.size := lt_heap R3.out
        exact ⟨C, .inr ⟨by go_num, rfl⟩, CZ.out.1, below_setRow (below_next J.out.1 D6.out) (by have := GE.out; omega) _, (J.out.2.1.next D6.out).put X1.out GE.out _, (setRow_other _ _ _ _ (by have := GE.out; omega)).trans ((D6.out.block _ (lt_heap J.out.2.2.1)).trans J.out.2.2.1), setRow_heap _ _ _ _ _ _ R6.out, (J.out.2.2.2.2.below D6.out).of_block fun q hq => setRow_other _ _ _ _ (by simp only [Value.ownBlock, Option.some.injEq] at hq; rw [← hq]; exact NE.out)⟩
      case measure => simp [intOf]
    · go_wp2
      go_ret2
      exact ⟨gs, rfl, J.out.2.2.2.1, J.out.1⟩
end
end Go.Proofs.YtofddbjnncgmlaaGreatDoor
