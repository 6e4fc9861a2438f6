/- The contract of do. The contracts of Write and Append. -/
import Derived.Test.YtppooipamibhoaaGreatDoorX14
namespace Go.Proofs.YtppooipamibhoaaGreatDoor
open Go.RowKit
open Go.Deep
open Go.Lib
theorem bs1C (w : World) (c : Ch) : (Instr.buildSlice 231 1 #[(0, .agg (chv c))]).run Tryz.prog w = .ok (.slice (some ⟨w.heap.size, 0, none⟩) 1 1) (w.alloc (.cells (chv c) 327)) := by
  kernel_rfl
theorem LC.one {w : World} {g : Nat} {c : Ch} (h : w.heap[g]? = some (.cells (chv c) 327 (0, 0))) : LC w g (.slice (some ⟨g, 0, none⟩) 1 1) [c] := by
  refine ⟨⟨_, _, rfl, fun _ => ⟨0, rfl, fun i c' hc j v hv => ?_⟩⟩⟩
  have : i = 0 := by
    rcases Nat.lt_or_ge i 1 with h' | h'
    · omega
    · rw [List.getElem?_eq_none (by simpa using h')] at hc
      cases hc
  subst this
  simp at hc
  subst hc
  rw [Nat.zero_mul, Nat.zero_add, cell_of_row _ _ _ _ _ _ h]
  simpa using hv
section
variable {w w1 : World} {ops : Array Oper} {o : Oper} {a : Act}
theorem ex_bs1C (x : Operand) (ho : o.op = .buildSlice 231 1 #[(0, x)]) {c : Ch} (hx : a.eval x = .agg (chv c)) : (execOp a.eval o).run Tryz.prog w = .ok (.value (.slice (some ⟨w.heap.size, 0, none⟩) 1 1)) (w.alloc (.cells (chv c) 327)) := by
  unfold execOp
  simp only [ho, List.map_toArray, List.map_cons, List.map_nil, hx, bs1C w c, Sem.run_bind, Result.andThen_ok, Sem.run_pure]
theorem ex_appC (x y : Operand) (ho : o.op = .call { callee := .builtin .append, args := #[x, y], argTypes := #[231, 231] }) {vx vy r : Value} (hx : a.eval x = vx) (hy : a.eval y = vy) (hr : (Builtin.append_ #[231, 231] o.type #[vx, vy]).run Tryz.prog w = .ok r w1) : (execOp a.eval o).run Tryz.prog w = .ok (.value r) w1 := by
  unfold execOp
  simp only [ho, resolve, invoke, builtin, Sem.run_bind, Sem.run_pure, Result.andThen_ok, List.map_toArray, List.map_cons, List.map_nil, hx, hy, hr]
end
/-- A disk with a change more. -/
def mkC (x : StD) (c : Ch) : StD := { x with now := doC x.now c, loose := x.loose ++ [c], made := x.made + 1 }
section
set_option maxRecDepth 10000
set_option maxHeartbeats 4000000
theorem do_any (gd : Nat) (x : StD) (T : Nat → Prop) (c : Ch) (w : World) (h : DK w gd x T) (hV : Vd x) (hp : x.plan = []) (ok : okD x.now c) (hm : x.loose.length < 10000) (hmd : x.made < 1000000) : Calls Tryz.prog 212 #[.pointer (some ⟨gd, 0, none⟩), .agg (chv c)] w fun e w' => e = .returned (.int .i64 0) ∧ DK w' gd (mkC x c) (grow T w w') ∧ Fr T w w' := by
  have hB : Below w.heap.size w (w.alloc (.cells (chv c) 327)) := (Below.refl _ _).alloc (Nat.le_refl _) _
  have HS := hide (strikes_none gd x T false _ (h.below hB) hp)
  have R0 := hide (heap_alloc_last w (.cells (chv c) 327))
  have H0 := hide h
  have HB := hide hB
  have HK := hide (And.intro hV (And.intro ok (And.intro hm hmd)))
  clear h hB hV hp ok hm hmd
  go_enter Tryz.func212, Tryz.ntmps212
  go_upto_region 3 with (first | refine wpList_boxA rfl _ rfl (chv c) rfl ?_ | (go_at_call 197; refine HS.out.mono ?_; rintro e w1 ⟨rfl, hb1⟩; have B1 := hide hb1; clear hb1))
  have BA : Hid (Below w.heap.size w w1) := HB.out.trans (B1.out.mono HB.out.size)
  have R1 : Hid (w1.heap[w.heap.size]? = some (.cells (chv c) 327 (0, 0))) := (B1.out.block _ (lt_heap R0.out)).trans R0.out
  obtain ⟨S1, S2, mn, ms, vo, vp, d0⟩ := H0.out.below BA.out
  have D1 := hide d0
  clear d0 HS B1 R0 HB
  generalize hgb : w.heap.size = gb at *
  refine wp_region_held_drew (S := fun W => W.heap[gb]? = some (.cells (chv c) 327 (0, 0))) (by kernel_rfl) R1.out (fun hH => ?_)
  refine wpAnyH_take (i := 0) (v := .pointer (some ⟨gd, 0, none⟩)) rfl (by kernel_rfl) (by kernel_rfl) (by kernel_rfl) (fun _ _ _ h => h) (ylD_move (by rfl) _ (by rfl) _ (by rfl)) hH ?_
  change wpAnyH _ _ _ _ _ _ _ (Act.put _ (some 7) _) _
  simp only [Act.put, List.setIfInBounds_toArray, List.set_cons_zero, List.set_cons_succ]
  refine wpAnyH_take (i := 1) (v := .pointer (some ⟨gd, 0, none⟩)) rfl (by kernel_rfl) (by kernel_rfl) (by kernel_rfl) (fun _ _ _ h => h) (.inl ⟨by rfl, fun W _ => by go_simp⟩) hH ?_
  change wpAnyH _ _ _ _ _ _ _ (Act.put _ (some 8) _) _
  simp only [Act.put, List.setIfInBounds_toArray, List.set_cons_zero, List.set_cons_succ]
  refine wpAnyH_take (i := 2) (v := .pointer (some ⟨gd, 0, none⟩)) rfl (by kernel_rfl) (by kernel_rfl) (by kernel_rfl) (fun _ _ _ h => h) (.inl ⟨by rfl, fun W _ => by go_simp⟩) hH ?_
  change wpAnyH _ _ _ _ _ _ _ (Act.put _ (some 9) _) _
  simp only [Act.put, List.setIfInBounds_toArray, List.set_cons_zero, List.set_cons_succ]
  refine wpAnyH_take (i := 3) (v := .agg (chv c)) rfl (by kernel_rfl) (by kernel_rfl) (by kernel_rfl) (fun _ _ _ h => h) (ylD_load (by rfl) _ (by rfl) _ _ (by rfl) (fun W hS => ld_row ACh rfl hS)) hH ?_
  change wpAnyH _ _ _ _ _ _ _ (Act.put _ (some 10) _) _
  simp only [Act.put, List.setIfInBounds_toArray, List.set_cons_zero, List.set_cons_succ]
  have B2 : Below w1.heap.size w1 (w1.drew.alloc (.cells (chv c) 327)) := ((Below.refl _ _).drew).alloc (Nat.le_refl _) _
  have R2 : Hid ((w1.drew.alloc (.cells (chv c) 327)).heap[gb]? = some (.cells (chv c) 327 (0, 0))) := (B2.block _ (lt_heap R1.out)).trans R1.out
  have N2 := hide (heap_alloc_last w1.drew (.cells (chv c) 327))
  have D2 := hide (D1.out.below B2)
  have HP := hide (play_any gd 0 6 233 _ (by decide) mn x.now S1 w1.drew.heap.size _ [c] _ D2.out.row rfl D2.out.now D2.out.d1 (LC.one N2.out) (fun _ => ⟨lt_heap N2.out, fun e => (by have := D1.out.lt _ (D1.out.t1 _ e); exact Nat.lt_irrefl _ this), fun e => (by have := D1.out.lt _ D1.out.tg; rw [← e] at this; exact Nat.lt_irrefl _ this)⟩) ⟨HK.out.2.1.ok, trivial⟩ (by simp))
  have HB2 := hide B2
  clear B2
  refine wpAnyH_ready (rs := [4]) (by kernel_rfl) (by simp) (AllReadyH.cons rfl (fun K1 hK1 => ?_) AllReadyH.nil)
  refine step_run (by rfl) (ex_bs1C _ (by rfl) (by rfl)) ?_
  refine hK1.out _ _ R2.out (fun hH => ?_)
  clear hK1
  change wpAnyH _ _ _ _ _ _ _ (Act.put _ (some 11) _) _
  simp only [Act.put, List.setIfInBounds_toArray, List.set_cons_zero, List.set_cons_succ]
  generalize w1.drew.alloc (.cells (chv c) 327) = W2 at *
  refine wpAnyH_ready (rs := [5]) (by kernel_rfl) (by simp) (AllReadyH.cons rfl (fun K1 hK1 => ?_) AllReadyH.nil)
  go_simp
  refine HP.out.mono ?_
  rintro e w3 ⟨⟨r, rfl⟩, b3, F3, f3, row3, fr3⟩
  have P3 := hide (D2.out.played0 f3 row3 fr3)
  have R3 : Hid (w3.heap[gb]? = some (.cells (chv c) 327 (0, 0))) := (P3.out.2.block _ (lt_heap R2.out) (fun e => by
    have := H0.out.lt _ e
    omega)).trans R2.out
  clear f3 row3 fr3
  refine hK1.out _ _ R3.out (fun hH => ?_)
  clear hK1
  refine wpAnyH_done (by kernel_rfl) ?_ _
  have FA : Hid (Fr T w w3) := by
    have hba := BA.out
    rw [← hgb] at hba
    exact ((Fr.of_below hba).trans' (Fr.of_below HB2.out)).trans' P3.out.2
  have SZ : Hid (gb < W2.heap.size ∧ w.heap.size ≤ W2.heap.size ∧ W2.heap.size ≤ w3.heap.size) := by
    have h1 := BA.out.size
    have h2 := HB2.out.size
    exact ⟨lt_heap R2.out, Nat.le_trans h1 h2, P3.out.2.size⟩
  have D3 := hide P3.out.1
  rw [show doL x.now [c] = doC x.now c from rfl] at D3
  clear P3 HP D2 N2 R2 HB2 D1 R1 BA
  go_upto_region 4 with fail
  have B4 : Below w3.heap.size w3 (w3.drew.alloc (.cells (chv c) 327)) := ((Below.refl _ _).drew).alloc (Nat.le_refl _) _
  have R4 : Hid ((w3.drew.alloc (.cells (chv c) 327)).heap[gb]? = some (.cells (chv c) 327 (0, 0))) := (B4.block _ (lt_heap R3.out)).trans R3.out
  have N4 := hide (heap_alloc_last w3.drew (.cells (chv c) 327))
  have D4 := hide (D3.out.below B4)
  have FB := hide (FA.out.trans' (Fr.of_below B4))
  have x3 := D3.out.cell 2 (by decide)
  have x4 := D4.out.cell 2 (by decide)
  rw [show dc (some b3) ms vo vp x.made x.dead 2 = vo from rfl] at x3 x4
  have nT : Hid (¬ grow T W2 w3 gb) := fun e => by
    rcases e with e | ⟨e, _⟩
    · have := H0.out.lt _ e
      omega
    · have := SZ.out.1
      omega
  have hl3 : x.loose.length ≤ 100000 := by
    have := HK.out.2.2.1
    omega
  obtain ⟨v5, w5, hr5, ho5, on5⟩ := run_appC (ty := 231) D4.out.loose w3.drew.heap.size c N4.out hl3
  have hv5 : ∃ ao n cc, v5 = .slice ao n cc := by
    rcases ho5.2 with ⟨rfl, _⟩ | ⟨g, cap, cur, rfl, _⟩
    · exact ⟨_, _, _, rfl⟩
    · exact ⟨_, _, _, rfl⟩
  obtain ⟨a5, n5, c5, rfl⟩ := hv5
  have hvo : ∃ ao n cc, vo = .slice ao n cc := by
    rcases D3.out.loose.2 with ⟨rfl, _⟩ | ⟨g, cap, cur, rfl, _⟩
    · exact ⟨_, _, _, rfl⟩
    · exact ⟨_, _, _, rfl⟩
  obtain ⟨ao, no, co, rfl⟩ := hvo
  have row5 := World.rowIs.of_block D4.out.row (on5.grown.block gd (World.rowIs.lt D4.out.row) (fun e => (D4.out.l1 gd e.symm).2.2 rfl))
  have y2 := World.rowIs.cell row5 (i := 2) (by decide)
  have z2 := World.rowIs.frozen row5 2
  rw [show dc (some b3) ms (.slice ao no co) vp x.made x.dead 2 = .slice ao no co from rfl] at y2
  have R5 : Hid (w5.heap[gb]? = some (.cells (chv c) 327 (0, 0))) := (on5.grown.block gb (lt_heap R4.out) (fun e => nT.out (D4.out.tl gb e.symm))).trans R4.out
  have ngd : gb ≠ gd := fun e => nT.out (e ▸ D3.out.tg)
  have R6 : Hid ((w5.setCell ⟨gd, 2, none⟩ (.slice a5 n5 c5)).heap[gb]? = some (.cells (chv c) 327 (0, 0))) := (Below.heap_setCell _ _ _ _ ngd).trans R5.out
  have D5 := hide (D4.out.more ho5 on5)
  have c3 := D5.out.1.cell 3 (by decide)
  have z3 := World.rowIs.frozen D5.out.1.row 3
  have FIN : Hid (DK ((w5.setCell ⟨gd, 2, none⟩ (.slice a5 n5 c5)).setCell ⟨gd, 3, none⟩ (.int .i64 ((x.made + 1 : Nat) : Int))) gd (mkC x c) (grow T w ((w5.setCell ⟨gd, 2, none⟩ (.slice a5 n5 c5)).setCell ⟨gd, 3, none⟩ (.int .i64 ((x.made + 1 : Nat) : Int)))) ∧ Fr T w ((w5.setCell ⟨gd, 2, none⟩ (.slice a5 n5 c5)).setCell ⟨gd, 3, none⟩ (.int .i64 ((x.made + 1 : Nat) : Int)))) := by
    have hsz : ((w5.setCell ⟨gd, 2, none⟩ (.slice a5 n5 c5)).setCell ⟨gd, 3, none⟩ (.int .i64 ((x.made + 1 : Nat) : Int))).heap.size = w5.heap.size := by simp [World.setCell]
    have h5 := on5.grown.size
    have h4 : w3.heap.size ≤ (w3.drew.alloc (.cells (chv c) 327)).heap.size := B4.size
    have hsz2 := SZ.out.2.1
    have hsz3 := SZ.out.2.2
    have hlt := H0.out.lt
    have tg : T gd := by
      rcases D3.out.tg with e | ⟨e, _⟩
      · exact e
      · obtain ⟨_, _, _, _, _, _, d⟩ := H0.out
        exact d.tg
    have fr : Fr T w ((w5.setCell ⟨gd, 2, none⟩ (.slice a5 n5 c5)).setCell ⟨gd, 3, none⟩ (.int .i64 ((x.made + 1 : Nat) : Int))) := by
      refine (FB.out.trans (D5.out.2.mono fun g hg => ?_)).trans' (Fr.setCell _ tg _)
      rcases hg with e | ⟨e1, e2⟩
      · exact .inl e
      · exact .inr ⟨by omega, by omega⟩
    refine ⟨⟨_, _, _, _, _, _, (D5.out.1.setMade (x.made + 1)).wide (fun g hg => ?_) (grow_lt hlt fr.size)⟩, fr⟩
    rcases hg with (e | ⟨e1, e2⟩) | ⟨e1, e2⟩
    · exact .inl e
    · exact .inr ⟨by omega, by rw [hsz]; omega⟩
    · exact .inr ⟨by omega, by rw [hsz]; exact e2⟩
  rw [show dc (some b3) ms (.slice a5 n5 c5) vp x.made x.dead 3 = .int .i64 (x.made : Int) from rfl] at c3
  have m0 : (0 : Int) ≤ x.made := by omega
  have m1 : (x.made : Int) < 1000000 := by
    have := HK.out.2.2.2
    omega
  clear ho5 on5 row5 ngd B4 nT hl3
  refine wp_region_held_drew (S := fun W => W.heap[gb]? = some (.cells (chv c) 327 (0, 0))) (by kernel_rfl) R3.out (fun hH => ?_)
  refine wpAnyH_take (i := 0) (v := .pointer (some ⟨gd, 0, none⟩)) rfl (by kernel_rfl) (by kernel_rfl) (by kernel_rfl) (fun _ _ _ h => h) (ylD_move (by rfl) _ (by rfl) _ (by rfl)) hH ?_
  change wpAnyH _ _ _ _ _ _ _ (Act.put _ (some 13) _) _
  simp only [Act.put, List.setIfInBounds_toArray, List.set_cons_zero, List.set_cons_succ]
  refine wpAnyH_take (i := 1) (v := .pointer (some ⟨gd, 0, none⟩)) rfl (by kernel_rfl) (by kernel_rfl) (by kernel_rfl) (fun _ _ _ h => h) (ylD_move (by rfl) _ (by rfl) _ (by rfl)) hH ?_
  change wpAnyH _ _ _ _ _ _ _ (Act.put _ (some 14) _) _
  simp only [Act.put, List.setIfInBounds_toArray, List.set_cons_zero, List.set_cons_succ]
  refine wpAnyH_take (i := 2) (v := .pointer (some ⟨gd, 0, none⟩)) rfl (by kernel_rfl) (by kernel_rfl) (by kernel_rfl) (fun _ _ _ h => h) (.inl ⟨by rfl, fun W _ => by go_simp⟩) hH ?_
  change wpAnyH _ _ _ _ _ _ _ (Act.put _ (some 15) _) _
  simp only [Act.put, List.setIfInBounds_toArray, List.set_cons_zero, List.set_cons_succ]
  refine wpAnyH_take (i := 3) (v := .pointer (some ⟨gd, 2, none⟩)) rfl (by kernel_rfl) (by kernel_rfl) (by kernel_rfl) (fun _ _ _ h => h) (.inl ⟨by rfl, fun W _ => by go_simp⟩) hH ?_
  change wpAnyH _ _ _ _ _ _ _ (Act.put _ (some 16) _) _
  simp only [Act.put, List.setIfInBounds_toArray, List.set_cons_zero, List.set_cons_succ]
  refine wpAnyH_take (i := 5) (v := .agg (chv c)) rfl (by kernel_rfl) (by kernel_rfl) (by kernel_rfl) (fun _ _ _ h => h) (ylD_load (by rfl) _ (by rfl) _ _ (by rfl) (fun W hS => ld_row ACh rfl hS)) hH ?_
  change wpAnyH _ _ _ _ _ _ _ (Act.put _ (some 18) _) _
  simp only [Act.put, List.setIfInBounds_toArray, List.set_cons_zero, List.set_cons_succ]
  refine wpAnyH_ready (rs := [4, 6]) (by kernel_rfl) (by simp) (AllReadyH.cons rfl (fun K1 hK1 => ?_) (AllReadyH.cons rfl (fun K1 hK1 => ?_) AllReadyH.nil))
  · clear x4
    go_simp
    refine hK1.out _ _ R3.out (fun hH => ?_)
    clear hK1
    refine wpAnyH_ready (rs := [6]) (by kernel_rfl) (by simp) (AllReadyH.cons rfl (fun K1 hK1 => ?_) AllReadyH.nil)
    refine step_run (by rfl) (ex_bs1C _ (by rfl) (by rfl)) ?_
    refine hK1.out _ _ R4.out (fun hH => ?_)
    clear hK1
    change wpAnyH _ _ _ _ _ _ _ (Act.put _ (some 19) _) _
    simp only [Act.put, List.setIfInBounds_toArray, List.set_cons_zero, List.set_cons_succ]
    refine wpAnyH_ready (rs := [7]) (by kernel_rfl) (by simp) (AllReadyH.cons rfl (fun K1 hK1 => ?_) AllReadyH.nil)
    refine step_run (by rfl) (ex_appC _ _ (by rfl) (by rfl) (by rfl) hr5) ?_
    refine hK1.out _ _ R5.out (fun hH => ?_)
    clear hK1 hr5
    change wpAnyH _ _ _ _ _ _ _ (Act.put _ (some 20) _) _
    simp only [Act.put, List.setIfInBounds_toArray, List.set_cons_zero, List.set_cons_succ]
    refine wpAnyH_take (i := 8) (v := .pointer (some ⟨gd, 0, none⟩)) rfl (by kernel_rfl) (by kernel_rfl) (by kernel_rfl) (fun _ _ _ h => h) (.inl ⟨by rfl, fun W _ => by go_simp⟩) hH ?_
    change wpAnyH _ _ _ _ _ _ _ (Act.put _ (some 21) _) _
    simp only [Act.put, List.setIfInBounds_toArray, List.set_cons_zero, List.set_cons_succ]
    refine wpAnyH_take (i := 9) (v := .pointer (some ⟨gd, 2, none⟩)) rfl (by kernel_rfl) (by kernel_rfl) (by kernel_rfl) (fun _ _ _ h => h) (.inl ⟨by rfl, fun W _ => by go_simp⟩) hH ?_
    change wpAnyH _ _ _ _ _ _ _ (Act.put _ (some 22) _) _
    simp only [Act.put, List.setIfInBounds_toArray, List.set_cons_zero, List.set_cons_succ]
    refine wpAnyH_ready (rs := [10]) (by kernel_rfl) (by simp) (AllReadyH.cons rfl (fun K1 hK1 => ?_) AllReadyH.nil)
    go_simp
    refine hK1.out _ _ R6.out (fun hH => ?_)
    clear hK1 y2 z2
    refine wpAnyH_done (by kernel_rfl) ?_ _
    rw [show ((x.made + 1 : Nat) : Int) = (x.made : Int) + 1 by omega] at FIN
    clear FB D4 D3 D5 R4 N4 R5 R6
    generalize w5.setCell ⟨gd, 2, none⟩ (.slice a5 n5 c5) = w6 at *
    go_wp2
    go_ret
    exact ⟨rfl, FIN.out⟩
  · clear x3
    refine step_run (by rfl) (ex_bs1C _ (by rfl) (by rfl)) ?_
    refine hK1.out _ _ R4.out (fun hH => ?_)
    clear hK1
    change wpAnyH _ _ _ _ _ _ _ (Act.put _ (some 19) _) _
    simp only [Act.put, List.setIfInBounds_toArray, List.set_cons_zero, List.set_cons_succ]
    generalize w3.drew.alloc (.cells (chv c) 327) = W4 at *
    refine wpAnyH_ready (rs := [4]) (by kernel_rfl) (by simp) (AllReadyH.cons rfl (fun K1 hK1 => ?_) AllReadyH.nil)
    go_simp
    refine hK1.out _ _ R4.out (fun hH => ?_)
    clear hK1
    refine wpAnyH_ready (rs := [7]) (by kernel_rfl) (by simp) (AllReadyH.cons rfl (fun K1 hK1 => ?_) AllReadyH.nil)
    refine step_run (by rfl) (ex_appC _ _ (by rfl) (by rfl) (by rfl) hr5) ?_
    refine hK1.out _ _ R5.out (fun hH => ?_)
    clear hK1 hr5
    change wpAnyH _ _ _ _ _ _ _ (Act.put _ (some 20) _) _
    simp only [Act.put, List.setIfInBounds_toArray, List.set_cons_zero, List.set_cons_succ]
    refine wpAnyH_take (i := 8) (v := .pointer (some ⟨gd, 0, none⟩)) rfl (by kernel_rfl) (by kernel_rfl) (by kernel_rfl) (fun _ _ _ h => h) (.inl ⟨by rfl, fun W _ => by go_simp⟩) hH ?_
    change wpAnyH _ _ _ _ _ _ _ (Act.put _ (some 21) _) _
    simp only [Act.put, List.setIfInBounds_toArray, List.set_cons_zero, List.set_cons_succ]
    refine wpAnyH_take (i := 9) (v := .pointer (some ⟨gd, 2, none⟩)) rfl (by kernel_rfl) (by kernel_rfl) (by kernel_rfl) (fun _ _ _ h => h) (.inl ⟨by rfl, fun W _ => by go_simp⟩) hH ?_
    change wpAnyH _ _ _ _ _ _ _ (Act.put _ (some 22) _) _
    simp only [Act.put, List.setIfInBounds_toArray, List.set_cons_zero, List.set_cons_succ]
    refine wpAnyH_ready (rs := [10]) (by kernel_rfl) (by simp) (AllReadyH.cons rfl (fun K1 hK1 => ?_) AllReadyH.nil)
    go_simp
    refine hK1.out _ _ R6.out (fun hH => ?_)
    clear hK1 y2 z2
    refine wpAnyH_done (by kernel_rfl) ?_ _
    rw [show ((x.made + 1 : Nat) : Int) = (x.made : Int) + 1 by omega] at FIN
    clear FB D4 D3 D5 R4 N4 R5 R6
    generalize w5.setCell ⟨gd, 2, none⟩ (.slice a5 n5 c5) = w6 at *
    go_wp2
    go_ret
    exact ⟨rfl, FIN.out⟩
end
end Go.Proofs.YtppooipamibhoaaGreatDoor
namespace Go.Proofs.YtppooipamibhoaaGreatDoor
open Go.RowKit
open Go.Deep
open Go.Lib
/-- A write that is made. -/
def wrC (nm : ByteArray) (k : Nat) (s : ByteArray) : Ch := ⟨0, nm, ⟨#[]⟩, k, s⟩
/-- The error of a write. -/
def wrE (x : StD) (nm : ByteArray) (k : Int) (s : ByteArray) : Int :=
  if rdy x.dead [nm] = 0 then
    (if k < 0 ∨ ((x.now.at (lsD nm)).length : Int) < k then 1 else if 16777216 - k < (s.size : Int) ∨ ((x.now.get (lsD nm)).isSome = false ∧ 64 ≤ x.now.n) then 71 else 0)
  else rdy x.dead [nm]
theorem rdy_ok {d : Bool} {nm : ByteArray} (h : rdy d [nm] = 0) : d = false ∧ isName (lsD nm) = true := by
  unfold rdy at h
  cases d
  · refine ⟨rfl, ?_⟩
    cases hn : isName (lsD nm)
    · simp [hn] at h
    · rfl
  · simp at h
theorem name_len {l : List UInt8} (h : isName l = true) : 1 ≤ l.length ∧ l.length ≤ 32 := by
  unfold isName at h
  simp at h
  exact ⟨by have := h.1.2; omega, h.2⟩
theorem wr8_len (l : List UInt8) (k : Nat) (s : List UInt8) (hk : k ≤ l.length) : (wr8 l k s).length = max l.length (k + s.length) := by
  simp [wr8]
  omega
theorem at_put (f : FS) (k l x : List UInt8) : (f.put k l).at x = if x = k then l else f.at x := by
  unfold FS.at
  rw [FS.put_get]
  split <;> rfl
/-- A write that is made keeps the bounds. -/
theorem wr_ok {f : FS} {nm s : ByteArray} {k : Nat} (hb : BdD f) (hn : isName (lsD nm) = true) (hk : k ≤ (f.at (lsD nm)).length) (hs : k + s.size ≤ 16777216) (hr : (f.get (lsD nm)).isSome = true ∨ f.n < 64) : okD f (wrC nm k s) := by
  have h32 := (name_len hn).2
  have hsz : nm.size ≤ 32 := by simpa using h32
  refine ⟨by simp [wrC], hsz, (by show ByteArray.size ⟨#[]⟩ ≤ 32; decide), fun _ => hk, by show s.size ≤ _; omega, hb, ⟨?_, fun x => ?_⟩⟩
  · show (f.put (lsD nm) (wr8 (f.at (lsD nm)) k (lsD s))).n ≤ 64
    show (if (f.get (lsD nm)).isSome then f.n else f.n + 1) ≤ 64
    have := hb.n
    split
    · exact this
    · rcases hr with hr | hr
      · contradiction
      · omega
  · show ((f.put (lsD nm) (wr8 (f.at (lsD nm)) k (lsD s))).at x).length ≤ 16777216
    rw [at_put]
    split
    · rw [wr8_len _ _ _ hk]
      have := hb.len (lsD nm)
      have : (lsD s).length = s.size := by simp
      omega
    · exact hb.len x
section
set_option maxRecDepth 10000
set_option maxHeartbeats 4000000
theorem writeD_nil (nm : ByteArray) (k : Int) (s : ByteArray) (w : World) : Calls Tryz.prog 194 #[.pointer none, .string nm, .int .i64 k, .string s] w fun e w' => e = .returned (.int .i64 7) ∧ Below w.heap.size w w' := by
  have HD := hide fun v W => ready_nil v W
  have hB : Hid (Below w.heap.size w (w.alloc (.cells #[.string nm] 9))) := (Below.refl _ _).alloc (Nat.le_refl _) _
  go_enter Tryz.func194, Tryz.ntmps194
  go_wp2_with (go_at_call 266; refine (HD.out _ _).mono ?_; rintro e w1 ⟨rfl, hw⟩; subst w1)
  go_ret
  exact ⟨rfl, hB.out⟩
theorem write_err (gd : Nat) (x : StD) (T : Nat → Prop) (nm : ByteArray) (k : Int) (s : ByteArray) (w : World) (h : DK w gd x T) (hb : BdD x.now) (hm : nm.size ≤ maxLen) (hs : s.size ≤ maxLen) (hk1 : -9223372036854775808 ≤ k) (hk2 : k < 9223372036854775808) (he : wrE x nm k s ≠ 0) : Calls Tryz.prog 194 #[.pointer (some ⟨gd, 0, none⟩), .string nm, .int .i64 k, .string s] w fun e w' => e = .returned (.int .i64 (wrE x nm k s)) ∧ Below w.heap.size w w' := by
  obtain ⟨S1, S2, mn, ms, vo, vp, h⟩ := h
  have hB : Below w.heap.size w (w.alloc (.cells #[.string nm] 9)) := (Below.refl _ _).alloc (Nat.le_refl _) _
  have h1 := h.below hB
  have c5 := h1.cell 5 (by decide)
  have c0 := h1.cell 0 (by decide)
  rw [show dc mn ms vo vp x.made x.dead 5 = .bool x.dead from rfl] at c5
  rw [show dc mn ms vo vp x.made x.dead 0 = .map mn from rfl] at c0
  have HR := hide (ready_any gd x.dead w.heap.size 1 [nm] _ c5 (one_name w nm hm) (by simp))
  rw [show [nm].length = 1 from rfl] at HR
  obtain ⟨v, hl1, hl2, ov⟩ := h1.now.look hm
  have hlen := h1.now.len
  obtain ⟨ao, n, c, rfl, hn⟩ := ov.form
  have HN := hide (show (n : Int) = (x.now.at (lsD nm)).length by rw [hn.out])
  have HB := hide hB
  have BD := hide hb
  unfold maxLen at hs
  unfold wrE at he ⊢
  have hnl := hb.len (lsD nm)
  rw [← hn.out] at hnl
  clear h h1 hm hB ov hl1 c5 hn hb
  rcases rdy_cases x.dead [nm] with hr | hr | hr
  · rw [hr, if_pos rfl]
    rw [hr, if_pos rfl] at he
    rw [hr] at HR
    rw [← HN.out] at he ⊢
    clear hr
    by_cases hc1 : k < 0
    · rw [if_pos (.inl hc1)]
      clear he hlen
      generalize (x.now.get (lsD nm)).isSome = th at *
      go_enter Tryz.func194, Tryz.ntmps194
      go_wp2_with (go_at_call 266; refine HR.out.mono ?_; rintro e w1 ⟨rfl, hw⟩; subst w1)
      go_ret
      exact ⟨rfl, HB.out⟩
    · by_cases hc2 : (n : Int) < k
      · rw [if_pos (.inr hc2)]
        clear he hlen
        generalize (x.now.get (lsD nm)).isSome = th at *
        go_enter Tryz.func194, Tryz.ntmps194
        go_wp2_with (go_at_call 266; refine HR.out.mono ?_; rintro e w1 ⟨rfl, hw⟩; subst w1)
        go_ret
        exact ⟨rfl, HB.out⟩
      · rw [if_neg (by omega)] at he ⊢
        by_cases hc3 : 16777216 - k < (s.size : Int)
        · rw [if_pos (.inl hc3)]
          clear he hlen
          generalize (x.now.get (lsD nm)).isSome = th at *
          have e1 : wrap64 (16777216 - k) = 16777216 - k := by unfold wrap64; omega
          go_enter Tryz.func194, Tryz.ntmps194
          go_wp2_with (go_at_call 266; refine HR.out.mono ?_; rintro e w1 ⟨rfl, hw⟩; subst w1)
          go_ret
          exact ⟨rfl, HB.out⟩
        · by_cases hc4 : (x.now.get (lsD nm)).isSome = false ∧ 64 ≤ x.now.n
          · rw [if_pos (.inr hc4)]
            rw [hc4.1] at hl2
            have n1 : (64 : Int) ≤ x.now.n := by omega
            clear he hc4
            have e1 : wrap64 (16777216 - k) = 16777216 - k := by unfold wrap64; omega
            go_enter Tryz.func194, Tryz.ntmps194
            go_wp2_with (go_at_call 266; refine HR.out.mono ?_; rintro e w1 ⟨rfl, hw⟩; subst w1)
            go_ret
            exact ⟨rfl, HB.out⟩
          · exact absurd (if_neg (fun e => by
              rcases e with e | e
              · exact hc3 e
              · exact hc4 e)) he
  all_goals
    rw [hr, if_neg (by decide)]
    rw [hr] at HR
    clear hr he
    go_enter Tryz.func194, Tryz.ntmps194
    go_wp2_with (go_at_call 266; refine HR.out.mono ?_; rintro e w1 ⟨rfl, hw⟩; subst w1)
    go_ret
    exact ⟨rfl, HB.out⟩
theorem dk_grow {w w1 w' : World} {gd : Nat} {x : StD} {T : Nat → Prop} (hb : Below w.heap.size w w1) (hl : ∀ g, T g → g < w.heap.size) (h : DK w' gd x (grow T w1 w')) (fr : Fr T w1 w') : DK w' gd x (grow T w w') ∧ Fr T w w' := by
  have r := (Fr.of_below hb).trans' fr
  refine ⟨h.wide (fun g hg => ?_) (grow_lt hl r.size), r⟩
  rcases hg with hg | ⟨h1, h2⟩
  · exact .inl hg
  · exact .inr ⟨Nat.le_trans hb.size h1, h2⟩
theorem write_ok (gd : Nat) (x : StD) (T : Nat → Prop) (nm : ByteArray) (k : Nat) (s : ByteArray) (w : World) (h : DK w gd x T) (hV : Vd x) (hp : x.plan = []) (hr : rdy x.dead [nm] = 0) (hk : k ≤ (x.now.at (lsD nm)).length) (hs : k + s.size ≤ 16777216) (hroom : (x.now.get (lsD nm)).isSome = true ∨ x.now.n < 64) (hmany : x.loose.length < 10000) (hmade : x.made < 1000000) : Calls Tryz.prog 194 #[.pointer (some ⟨gd, 0, none⟩), .string nm, .int .i64 (k : Int), .string s] w fun e w' => e = .returned (.int .i64 0) ∧ DK w' gd (mkC x (wrC nm k s)) (grow T w w') ∧ Fr T w w' := by
  have hB : Below w.heap.size w (w.alloc (.cells #[.string nm] 9)) := (Below.refl _ _).alloc (Nat.le_refl _) _
  have hbd : BdD x.now := by rw [hV.now]; exact hV.ok.end_
  obtain ⟨hdead, hname⟩ := rdy_ok hr
  have hm : nm.size ≤ maxLen := by
    have := (name_len hname).2
    have e : (lsD nm).length = nm.size := by simp
    unfold maxLen
    omega
  have HDo : Hid (Calls Tryz.prog 212 #[.pointer (some ⟨gd, 0, none⟩), .agg #[.int .i64 0, .string nm, .string ⟨#[]⟩, .int .i64 (k : Int), .string s]] (w.alloc (.cells #[.string nm] 9)) fun e w' => e = .returned (.int .i64 0) ∧ DK w' gd (mkC x (wrC nm k s)) (grow T (w.alloc (.cells #[.string nm] 9)) w') ∧ Fr T (w.alloc (.cells #[.string nm] 9)) w') :=
    do_any gd x T (wrC nm k s) _ (h.below hB) hV hp (wr_ok hbd hname hk hs hroom) hmany hmade
  have HL := hide h.lt
  obtain ⟨S1, S2, mn, ms, vo, vp, h⟩ := h
  have h1 := h.below hB
  have c5 := h1.cell 5 (by decide)
  have c0 := h1.cell 0 (by decide)
  rw [show dc mn ms vo vp x.made x.dead 5 = .bool x.dead from rfl] at c5
  rw [show dc mn ms vo vp x.made x.dead 0 = .map mn from rfl] at c0
  have HR := hide (ready_any gd x.dead w.heap.size 1 [nm] _ c5 (one_name w nm hm) (by simp))
  rw [show [nm].length = 1 from rfl, hr] at HR
  obtain ⟨v, hl1, hl2, ov⟩ := h1.now.look hm
  have hlen := h1.now.len
  obtain ⟨ao, n, c, rfl, hn⟩ := ov.form
  have hkn : (k : Int) ≤ n := by
    rw [hn.out]
    omega
  have hk0 : ¬ (k : Int) < 0 := by omega
  have hkn' : ¬ (n : Int) < (k : Int) := by omega
  have e1 : wrap64 (16777216 - (k : Int)) = 16777216 - k := by unfold wrap64; omega
  have hs' : ¬ 16777216 - (k : Int) < (s.size : Int) := by omega
  have HB := hide hB
  clear h h1 hm hB ov hl1 c5 hn hbd hV hp hk hdead hname hr hs hmany hmade
  cases hth : (x.now.get (lsD nm)).isSome
  · rw [hth] at hl2
    have n1 : ¬ (64 : Int) ≤ x.now.n := by
      rcases hroom with e | e
      · rw [hth] at e
        cases e
      · omega
    clear hroom hth
    go_enter Tryz.func194, Tryz.ntmps194
    go_wp2_with (first | (go_at_call 266; refine HR.out.mono ?_; rintro e w1 ⟨rfl, hw⟩; subst w1) | (go_at_call 212; refine HDo.out.mono ?_; rintro e w1 ⟨rfl, hd, hf⟩; have HF := hide (dk_grow HB.out HL.out hd hf); clear hd hf))
    go_ret
    exact ⟨rfl, HF.out⟩
  · rw [hth] at hl2
    clear hroom hth
    go_enter Tryz.func194, Tryz.ntmps194
    go_wp2_with (first | (go_at_call 266; refine HR.out.mono ?_; rintro e w1 ⟨rfl, hw⟩; subst w1) | (go_at_call 212; refine HDo.out.mono ?_; rintro e w1 ⟨rfl, hd, hf⟩; have HF := hide (dk_grow HB.out HL.out hd hf); clear hd hf))
    go_ret
    exact ⟨rfl, HF.out⟩
end
end Go.Proofs.YtppooipamibhoaaGreatDoor
