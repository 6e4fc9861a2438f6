/- Disks: do, whatever the plan is. Disks that a call made for itself, and awake. The contract of Remove. -/
import Derived.Test.YtppooipamibhoaaGreatDoorX18
import Derived.Test.YtppooipamibhoaaGreatDoorX15
import Derived.Test.YtppooipamibhoaaGreatDoorX17
namespace Go.Proofs.YtppooipamibhoaaGreatDoor
open Go.RowKit
open Go.Deep
open Go.Lib
set_option linter.unusedVariables false
section
set_option maxRecDepth 10000
set_option maxHeartbeats 4000000
theorem do_no (gd : Nat) (x : StD) (T : Nat → Prop) (c : Ch) (w : World) (h : DK w gd x T) (hV : Vd x) (hp : fstF x.made false x.plan = -1) (hpl : x.plan.length ≤ 4611686018427387904) (ok : okD x.now c) (hm : x.loose.length < 10000) (hmd : x.made < 1000000) : Calls Tryz.prog 212 #[.pointer (some ⟨gd, 0, none⟩), .agg (chv c)] w fun e w' => e = .returned (.int .i64 0) ∧ DK w' gd (mkC x c) (grow T w w') ∧ Fr T w w' := by
  have hB : Below w.heap.size w (w.alloc (.cells (chv c) 327)) := (Below.refl _ _).alloc (Nat.le_refl _) _
  have HS := hide (strikes_no gd x T false _ (h.below hB) hp hpl)
  have R0 := hide (heap_alloc_last w (.cells (chv c) 327))
  have H0 := hide h
  have HB := hide hB
  have HK := hide (And.intro hV (And.intro ok (And.intro hm hmd)))
  clear h hB hV hp hpl ok hm hmd
  go_enter Tryz.func212, Tryz.ntmps212
  go_upto_region 3 with (first | refine wpList_boxA rfl _ rfl (chv c) rfl ?_ | (go_at_call 197; refine HS.out.mono ?_; rintro e w1 ⟨rfl, hb1⟩; have B1 := hide hb1; clear hb1))
  have BA : Hid (Below w.heap.size w w1) := HB.out.trans (B1.out.mono HB.out.size)
  have R1 : Hid (w1.heap[w.heap.size]? = some (.cells (chv c) 327 (0, 0))) := (B1.out.block _ (lt_heap R0.out)).trans R0.out
  obtain ⟨S1, S2, mn, ms, vo, vp, d0⟩ := H0.out.below BA.out
  have D1 := hide d0
  clear d0 HS B1 R0 HB
  generalize hgb : w.heap.size = gb at *
  refine wp_region_held_drew (S := fun W => W.heap[gb]? = some (.cells (chv c) 327 (0, 0))) (by kernel_rfl) R1.out (fun hH => ?_)
  refine wpAnyH_take (i := 0) (v := .pointer (some ⟨gd, 0, none⟩)) rfl (by kernel_rfl) (by kernel_rfl) (by kernel_rfl) (fun _ _ _ h => h) (ylD_move (by rfl) _ (by rfl) _ (by rfl)) hH ?_
  change wpAnyH _ _ _ _ _ _ _ (Act.put _ (some 7) _) _
  simp only [Act.put, List.setIfInBounds_toArray, List.set_cons_zero, List.set_cons_succ]
  refine wpAnyH_take (i := 1) (v := .pointer (some ⟨gd, 0, none⟩)) rfl (by kernel_rfl) (by kernel_rfl) (by kernel_rfl) (fun _ _ _ h => h) (.inl ⟨by rfl, fun W _ => by go_simp⟩) hH ?_
  change wpAnyH _ _ _ _ _ _ _ (Act.put _ (some 8) _) _
  simp only [Act.put, List.setIfInBounds_toArray, List.set_cons_zero, List.set_cons_succ]
  refine wpAnyH_take (i := 2) (v := .pointer (some ⟨gd, 0, none⟩)) rfl (by kernel_rfl) (by kernel_rfl) (by kernel_rfl) (fun _ _ _ h => h) (.inl ⟨by rfl, fun W _ => by go_simp⟩) hH ?_
  change wpAnyH _ _ _ _ _ _ _ (Act.put _ (some 9) _) _
  simp only [Act.put, List.setIfInBounds_toArray, List.set_cons_zero, List.set_cons_succ]
  refine wpAnyH_take (i := 3) (v := .agg (chv c)) rfl (by kernel_rfl) (by kernel_rfl) (by kernel_rfl) (fun _ _ _ h => h) (ylD_load (by rfl) _ (by rfl) _ _ (by rfl) (fun W hS => ld_row ACh rfl hS)) hH ?_
  change wpAnyH _ _ _ _ _ _ _ (Act.put _ (some 10) _) _
  simp only [Act.put, List.setIfInBounds_toArray, List.set_cons_zero, List.set_cons_succ]
  have B2 : Below w1.heap.size w1 (w1.drew.alloc (.cells (chv c) 327)) := ((Below.refl _ _).drew).alloc (Nat.le_refl _) _
  have R2 : Hid ((w1.drew.alloc (.cells (chv c) 327)).heap[gb]? = some (.cells (chv c) 327 (0, 0))) := (B2.block _ (lt_heap R1.out)).trans R1.out
  have N2 := hide (heap_alloc_last w1.drew (.cells (chv c) 327))
  have D2 := hide (D1.out.below B2)
  have HP := hide (play_any gd 0 6 233 _ (by decide) mn x.now S1 w1.drew.heap.size _ [c] _ D2.out.row rfl D2.out.now D2.out.d1 (LC.one N2.out) (fun _ => ⟨lt_heap N2.out, fun e => (by have := D1.out.lt _ (D1.out.t1 _ e); exact Nat.lt_irrefl _ this), fun e => (by have := D1.out.lt _ D1.out.tg; rw [← e] at this; exact Nat.lt_irrefl _ this)⟩) ⟨HK.out.2.1.ok, trivial⟩ (by simp))
  have HB2 := hide B2
  clear B2
  refine wpAnyH_ready (rs := [4]) (by kernel_rfl) (by simp) (AllReadyH.cons rfl (fun K1 hK1 => ?_) AllReadyH.nil)
  refine step_run (by rfl) (ex_bs1C _ (by rfl) (by rfl)) ?_
  refine hK1.out _ _ R2.out (fun hH => ?_)
  clear hK1
  change wpAnyH _ _ _ _ _ _ _ (Act.put _ (some 11) _) _
  simp only [Act.put, List.setIfInBounds_toArray, List.set_cons_zero, List.set_cons_succ]
  generalize w1.drew.alloc (.cells (chv c) 327) = W2 at *
  refine wpAnyH_ready (rs := [5]) (by kernel_rfl) (by simp) (AllReadyH.cons rfl (fun K1 hK1 => ?_) AllReadyH.nil)
  go_simp
  refine HP.out.mono ?_
  rintro e w3 ⟨⟨r, rfl⟩, b3, F3, f3, row3, fr3⟩
  have P3 := hide (D2.out.played0 f3 row3 fr3)
  have R3 : Hid (w3.heap[gb]? = some (.cells (chv c) 327 (0, 0))) := (P3.out.2.block _ (lt_heap R2.out) (fun e => by
    have := H0.out.lt _ e
    omega)).trans R2.out
  clear f3 row3 fr3
  refine hK1.out _ _ R3.out (fun hH => ?_)
  clear hK1
  refine wpAnyH_done (by kernel_rfl) ?_ _
  have FA : Hid (Fr T w w3) := by
    have hba := BA.out
    rw [← hgb] at hba
    exact ((Fr.of_below hba).trans' (Fr.of_below HB2.out)).trans' P3.out.2
  have SZ : Hid (gb < W2.heap.size ∧ w.heap.size ≤ W2.heap.size ∧ W2.heap.size ≤ w3.heap.size) := by
    have h1 := BA.out.size
    have h2 := HB2.out.size
    exact ⟨lt_heap R2.out, Nat.le_trans h1 h2, P3.out.2.size⟩
  have D3 := hide P3.out.1
  rw [show doL x.now [c] = doC x.now c from rfl] at D3
  clear P3 HP D2 N2 R2 HB2 D1 R1 BA
  go_upto_region 4 with fail
  have B4 : Below w3.heap.size w3 (w3.drew.alloc (.cells (chv c) 327)) := ((Below.refl _ _).drew).alloc (Nat.le_refl _) _
  have R4 : Hid ((w3.drew.alloc (.cells (chv c) 327)).heap[gb]? = some (.cells (chv c) 327 (0, 0))) := (B4.block _ (lt_heap R3.out)).trans R3.out
  have N4 := hide (heap_alloc_last w3.drew (.cells (chv c) 327))
  have D4 := hide (D3.out.below B4)
  have FB := hide (FA.out.trans' (Fr.of_below B4))
  have x3 := D3.out.cell 2 (by decide)
  have x4 := D4.out.cell 2 (by decide)
  rw [show dc (some b3) ms vo vp x.made x.dead 2 = vo from rfl] at x3 x4
  have nT : Hid (¬ grow T W2 w3 gb) := fun e => by
    rcases e with e | ⟨e, _⟩
    · have := H0.out.lt _ e
      omega
    · have := SZ.out.1
      omega
  have hl3 : x.loose.length ≤ 100000 := by
    have := HK.out.2.2.1
    omega
  obtain ⟨v5, w5, hr5, ho5, on5⟩ := run_appC (ty := 231) D4.out.loose w3.drew.heap.size c N4.out hl3
  have hv5 : ∃ ao n cc, v5 = .slice ao n cc := by
    rcases ho5.2 with ⟨rfl, _⟩ | ⟨g, cap, cur, rfl, _⟩
    · exact ⟨_, _, _, rfl⟩
    · exact ⟨_, _, _, rfl⟩
  obtain ⟨a5, n5, c5, rfl⟩ := hv5
  have hvo : ∃ ao n cc, vo = .slice ao n cc := by
    rcases D3.out.loose.2 with ⟨rfl, _⟩ | ⟨g, cap, cur, rfl, _⟩
    · exact ⟨_, _, _, rfl⟩
    · exact ⟨_, _, _, rfl⟩
  obtain ⟨ao, no, co, rfl⟩ := hvo
  have row5 := World.rowIs.of_block D4.out.row (on5.grown.block gd (World.rowIs.lt D4.out.row) (fun e => (D4.out.l1 gd e.symm).2.2 rfl))
  have y2 := World.rowIs.cell row5 (i := 2) (by decide)
  have z2 := World.rowIs.frozen row5 2
  rw [show dc (some b3) ms (.slice ao no co) vp x.made x.dead 2 = .slice ao no co from rfl] at y2
  have R5 : Hid (w5.heap[gb]? = some (.cells (chv c) 327 (0, 0))) := (on5.grown.block gb (lt_heap R4.out) (fun e => nT.out (D4.out.tl gb e.symm))).trans R4.out
  have ngd : gb ≠ gd := fun e => nT.out (e ▸ D3.out.tg)
  have R6 : Hid ((w5.setCell ⟨gd, 2, none⟩ (.slice a5 n5 c5)).heap[gb]? = some (.cells (chv c) 327 (0, 0))) := (Below.heap_setCell _ _ _ _ ngd).trans R5.out
  have D5 := hide (D4.out.more ho5 on5)
  have c3 := D5.out.1.cell 3 (by decide)
  have z3 := World.rowIs.frozen D5.out.1.row 3
  have FIN : Hid (DK ((w5.setCell ⟨gd, 2, none⟩ (.slice a5 n5 c5)).setCell ⟨gd, 3, none⟩ (.int .i64 ((x.made + 1 : Nat) : Int))) gd (mkC x c) (grow T w ((w5.setCell ⟨gd, 2, none⟩ (.slice a5 n5 c5)).setCell ⟨gd, 3, none⟩ (.int .i64 ((x.made + 1 : Nat) : Int)))) ∧ Fr T w ((w5.setCell ⟨gd, 2, none⟩ (.slice a5 n5 c5)).setCell ⟨gd, 3, none⟩ (.int .i64 ((x.made + 1 : Nat) : Int)))) := by
    have hsz : ((w5.setCell ⟨gd, 2, none⟩ (.slice a5 n5 c5)).setCell ⟨gd, 3, none⟩ (.int .i64 ((x.made + 1 : Nat) : Int))).heap.size = w5.heap.size := by simp [World.setCell]
    have h5 := on5.grown.size
    have h4 : w3.heap.size ≤ (w3.drew.alloc (.cells (chv c) 327)).heap.size := B4.size
    have hsz2 := SZ.out.2.1
    have hsz3 := SZ.out.2.2
    have hlt := H0.out.lt
    have tg : T gd := by
      rcases D3.out.tg with e | ⟨e, _⟩
      · exact e
      · obtain ⟨_, _, _, _, _, _, d⟩ := H0.out
        exact d.tg
    have fr : Fr T w ((w5.setCell ⟨gd, 2, none⟩ (.slice a5 n5 c5)).setCell ⟨gd, 3, none⟩ (.int .i64 ((x.made + 1 : Nat) : Int))) := by
      refine (FB.out.trans (D5.out.2.mono fun g hg => ?_)).trans' (Fr.setCell _ tg _)
      rcases hg with e | ⟨e1, e2⟩
      · exact .inl e
      · exact .inr ⟨by omega, by omega⟩
    refine ⟨⟨_, _, _, _, _, _, (D5.out.1.setMade (x.made + 1)).wide (fun g hg => ?_) (grow_lt hlt fr.size)⟩, fr⟩
    rcases hg with (e | ⟨e1, e2⟩) | ⟨e1, e2⟩
    · exact .inl e
    · exact .inr ⟨by omega, by rw [hsz]; omega⟩
    · exact .inr ⟨by omega, by rw [hsz]; exact e2⟩
  rw [show dc (some b3) ms (.slice a5 n5 c5) vp x.made x.dead 3 = .int .i64 (x.made : Int) from rfl] at c3
  have m0 : (0 : Int) ≤ x.made := by omega
  have m1 : (x.made : Int) < 1000000 := by
    have := HK.out.2.2.2
    omega
  clear ho5 on5 row5 ngd B4 nT hl3
  refine wp_region_held_drew (S := fun W => W.heap[gb]? = some (.cells (chv c) 327 (0, 0))) (by kernel_rfl) R3.out (fun hH => ?_)
  refine wpAnyH_take (i := 0) (v := .pointer (some ⟨gd, 0, none⟩)) rfl (by kernel_rfl) (by kernel_rfl) (by kernel_rfl) (fun _ _ _ h => h) (ylD_move (by rfl) _ (by rfl) _ (by rfl)) hH ?_
  change wpAnyH _ _ _ _ _ _ _ (Act.put _ (some 13) _) _
  simp only [Act.put, List.setIfInBounds_toArray, List.set_cons_zero, List.set_cons_succ]
  refine wpAnyH_take (i := 1) (v := .pointer (some ⟨gd, 0, none⟩)) rfl (by kernel_rfl) (by kernel_rfl) (by kernel_rfl) (fun _ _ _ h => h) (ylD_move (by rfl) _ (by rfl) _ (by rfl)) hH ?_
  change wpAnyH _ _ _ _ _ _ _ (Act.put _ (some 14) _) _
  simp only [Act.put, List.setIfInBounds_toArray, List.set_cons_zero, List.set_cons_succ]
  refine wpAnyH_take (i := 2) (v := .pointer (some ⟨gd, 0, none⟩)) rfl (by kernel_rfl) (by kernel_rfl) (by kernel_rfl) (fun _ _ _ h => h) (.inl ⟨by rfl, fun W _ => by go_simp⟩) hH ?_
  change wpAnyH _ _ _ _ _ _ _ (Act.put _ (some 15) _) _
  simp only [Act.put, List.setIfInBounds_toArray, List.set_cons_zero, List.set_cons_succ]
  refine wpAnyH_take (i := 3) (v := .pointer (some ⟨gd, 2, none⟩)) rfl (by kernel_rfl) (by kernel_rfl) (by kernel_rfl) (fun _ _ _ h => h) (.inl ⟨by rfl, fun W _ => by go_simp⟩) hH ?_
  change wpAnyH _ _ _ _ _ _ _ (Act.put _ (some 16) _) _
  simp only [Act.put, List.setIfInBounds_toArray, List.set_cons_zero, List.set_cons_succ]
  refine wpAnyH_take (i := 5) (v := .agg (chv c)) rfl (by kernel_rfl) (by kernel_rfl) (by kernel_rfl) (fun _ _ _ h => h) (ylD_load (by rfl) _ (by rfl) _ _ (by rfl) (fun W hS => ld_row ACh rfl hS)) hH ?_
  change wpAnyH _ _ _ _ _ _ _ (Act.put _ (some 18) _) _
  simp only [Act.put, List.setIfInBounds_toArray, List.set_cons_zero, List.set_cons_succ]
  refine wpAnyH_ready (rs := [4, 6]) (by kernel_rfl) (by simp) (AllReadyH.cons rfl (fun K1 hK1 => ?_) (AllReadyH.cons rfl (fun K1 hK1 => ?_) AllReadyH.nil))
  · clear x4
    go_simp
    refine hK1.out _ _ R3.out (fun hH => ?_)
    clear hK1
    refine wpAnyH_ready (rs := [6]) (by kernel_rfl) (by simp) (AllReadyH.cons rfl (fun K1 hK1 => ?_) AllReadyH.nil)
    refine step_run (by rfl) (ex_bs1C _ (by rfl) (by rfl)) ?_
    refine hK1.out _ _ R4.out (fun hH => ?_)
    clear hK1
    change wpAnyH _ _ _ _ _ _ _ (Act.put _ (some 19) _) _
    simp only [Act.put, List.setIfInBounds_toArray, List.set_cons_zero, List.set_cons_succ]
    refine wpAnyH_ready (rs := [7]) (by kernel_rfl) (by simp) (AllReadyH.cons rfl (fun K1 hK1 => ?_) AllReadyH.nil)
    refine step_run (by rfl) (ex_appC _ _ (by rfl) (by rfl) (by rfl) hr5) ?_
    refine hK1.out _ _ R5.out (fun hH => ?_)
    clear hK1 hr5
    change wpAnyH _ _ _ _ _ _ _ (Act.put _ (some 20) _) _
    simp only [Act.put, List.setIfInBounds_toArray, List.set_cons_zero, List.set_cons_succ]
    refine wpAnyH_take (i := 8) (v := .pointer (some ⟨gd, 0, none⟩)) rfl (by kernel_rfl) (by kernel_rfl) (by kernel_rfl) (fun _ _ _ h => h) (.inl ⟨by rfl, fun W _ => by go_simp⟩) hH ?_
    change wpAnyH _ _ _ _ _ _ _ (Act.put _ (some 21) _) _
    simp only [Act.put, List.setIfInBounds_toArray, List.set_cons_zero, List.set_cons_succ]
    refine wpAnyH_take (i := 9) (v := .pointer (some ⟨gd, 2, none⟩)) rfl (by kernel_rfl) (by kernel_rfl) (by kernel_rfl) (fun _ _ _ h => h) (.inl ⟨by rfl, fun W _ => by go_simp⟩) hH ?_
    change wpAnyH _ _ _ _ _ _ _ (Act.put _ (some 22) _) _
    simp only [Act.put, List.setIfInBounds_toArray, List.set_cons_zero, List.set_cons_succ]
    refine wpAnyH_ready (rs := [10]) (by kernel_rfl) (by simp) (AllReadyH.cons rfl (fun K1 hK1 => ?_) AllReadyH.nil)
    go_simp
    refine hK1.out _ _ R6.out (fun hH => ?_)
    clear hK1 y2 z2
    refine wpAnyH_done (by kernel_rfl) ?_ _
    rw [show ((x.made + 1 : Nat) : Int) = (x.made : Int) + 1 by omega] at FIN
    clear FB D4 D3 D5 R4 N4 R5 R6
    generalize w5.setCell ⟨gd, 2, none⟩ (.slice a5 n5 c5) = w6 at *
    go_wp2
    go_ret
    exact ⟨rfl, FIN.out⟩
  · clear x3
    refine step_run (by rfl) (ex_bs1C _ (by rfl) (by rfl)) ?_
    refine hK1.out _ _ R4.out (fun hH => ?_)
    clear hK1
    change wpAnyH _ _ _ _ _ _ _ (Act.put _ (some 19) _) _
    simp only [Act.put, List.setIfInBounds_toArray, List.set_cons_zero, List.set_cons_succ]
    generalize w3.drew.alloc (.cells (chv c) 327) = W4 at *
    refine wpAnyH_ready (rs := [4]) (by kernel_rfl) (by simp) (AllReadyH.cons rfl (fun K1 hK1 => ?_) AllReadyH.nil)
    go_simp
    refine hK1.out _ _ R4.out (fun hH => ?_)
    clear hK1
    refine wpAnyH_ready (rs := [7]) (by kernel_rfl) (by simp) (AllReadyH.cons rfl (fun K1 hK1 => ?_) AllReadyH.nil)
    refine step_run (by rfl) (ex_appC _ _ (by rfl) (by rfl) (by rfl) hr5) ?_
    refine hK1.out _ _ R5.out (fun hH => ?_)
    clear hK1 hr5
    change wpAnyH _ _ _ _ _ _ _ (Act.put _ (some 20) _) _
    simp only [Act.put, List.setIfInBounds_toArray, List.set_cons_zero, List.set_cons_succ]
    refine wpAnyH_take (i := 8) (v := .pointer (some ⟨gd, 0, none⟩)) rfl (by kernel_rfl) (by kernel_rfl) (by kernel_rfl) (fun _ _ _ h => h) (.inl ⟨by rfl, fun W _ => by go_simp⟩) hH ?_
    change wpAnyH _ _ _ _ _ _ _ (Act.put _ (some 21) _) _
    simp only [Act.put, List.setIfInBounds_toArray, List.set_cons_zero, List.set_cons_succ]
    refine wpAnyH_take (i := 9) (v := .pointer (some ⟨gd, 2, none⟩)) rfl (by kernel_rfl) (by kernel_rfl) (by kernel_rfl) (fun _ _ _ h => h) (.inl ⟨by rfl, fun W _ => by go_simp⟩) hH ?_
    change wpAnyH _ _ _ _ _ _ _ (Act.put _ (some 22) _) _
    simp only [Act.put, List.setIfInBounds_toArray, List.set_cons_zero, List.set_cons_succ]
    refine wpAnyH_ready (rs := [10]) (by kernel_rfl) (by simp) (AllReadyH.cons rfl (fun K1 hK1 => ?_) AllReadyH.nil)
    go_simp
    refine hK1.out _ _ R6.out (fun hH => ?_)
    clear hK1 y2 z2
    refine wpAnyH_done (by kernel_rfl) ?_ _
    rw [show ((x.made + 1 : Nat) : Int) = (x.made : Int) + 1 by omega] at FIN
    clear FB D4 D3 D5 R4 N4 R5 R6
    generalize w5.setCell ⟨gd, 2, none⟩ (.slice a5 n5 c5) = w6 at *
    go_wp2
    go_ret
    exact ⟨rfl, FIN.out⟩
end
section
set_option maxRecDepth 10000
set_option maxHeartbeats 4000000
theorem do_yes (gd : Nat) (x : StD) (T : Nat → Prop) (c : Ch) (w : World) (h : DK w gd x T) (hV : Vd x) (i : Nat) (f : Fl) (hf : x.plan[i]? = some f) (hn : fstF x.made false x.plan = (i : Int)) (hl : x.plan.length ≤ 4611686018427387904) (hk1 : -9223372036854775808 ≤ f.keep) (hk2 : f.keep < 9223372036854775808) : Calls Tryz.prog 212 #[.pointer (some ⟨gd, 0, none⟩), .agg (chv c)] w fun e w' => e = .returned (.int .i64 7) ∧ DK w' gd (flC { x with plan := x.plan.eraseIdx i } f.keep f.torn) (grow T w w') ∧ Fr T w w' := by
  have hB : Below w.heap.size w (w.alloc (.cells (chv c) 327)) := (Below.refl _ _).alloc (Nat.le_refl _) _
  have HS := hide (strikes_yes gd x T false _ (h.below hB) hV i f hf hn hl hk1 hk2)
  have HL := hide h.lt
  have HB := hide hB
  clear h hB hV hf hn hl hk1 hk2
  go_enter Tryz.func212, Tryz.ntmps212
  go_wp2_with (first | refine wpList_boxA rfl _ rfl (chv c) rfl ?_ | (go_at_call 197; refine HS.out.mono ?_; rintro e w1 ⟨rfl, hd, hf⟩; have HF := hide (dk_grow HB.out HL.out hd hf); clear hd hf))
  go_ret
  exact ⟨rfl, HF.out⟩
end
/-- What a fall of the plan leaves, if one strikes. -/
def stS (x : StD) (b : Bool) : Option StD := match x.plan.findIdx? (hereB x.made b) with | some i => (x.plan[i]?).map fun f => flC { x with plan := x.plan.eraseIdx i } f.keep f.torn | none => none
def doS (x : StD) (c : Ch) : StD := match stS x false with | some y => y | none => mkC x c
def stE (x : StD) (b : Bool) : Int := match stS x b with | some _ => 7 | none => 0
/-- A plan whose numbers a machine holds. -/
structure okP (P : List Fl) : Prop where
  len : P.length ≤ 4611686018427387904
  keep : ∀ f ∈ P, -9223372036854775808 ≤ f.keep ∧ f.keep < 9223372036854775808
theorem st_cases (x : StD) (b : Bool) (hP : okP x.plan) : (fstF x.made b x.plan = -1 ∧ stS x b = none) ∨ ∃ (i : Nat) (f : Fl), x.plan[i]? = some f ∧ fstF x.made b x.plan = (i : Int) ∧ stS x b = some (flC { x with plan := x.plan.eraseIdx i } f.keep f.torn) ∧ -9223372036854775808 ≤ f.keep ∧ f.keep < 9223372036854775808 := by
  unfold fstF stS
  cases hi : x.plan.findIdx? (hereB x.made b) with
  | none => exact .inl ⟨rfl, rfl⟩
  | some i =>
    have h := (List.findIdx?_eq_some_iff_getElem.1 hi).1
    have e := List.getElem?_eq_getElem h
    have k := hP.keep _ (List.getElem_mem h)
    refine .inr ⟨i, _, e, rfl, ?_, k.1, k.2⟩
    simp only [e, Option.map_some]
theorem do_all (gd : Nat) (x : StD) (T : Nat → Prop) (c : Ch) (w : World) (h : DK w gd x T) (hV : Vd x) (hP : okP x.plan) (ok : okD x.now c) (hm : x.loose.length < 10000) (hmd : x.made < 1000000) : Calls Tryz.prog 212 #[.pointer (some ⟨gd, 0, none⟩), .agg (chv c)] w fun e w' => e = .returned (.int .i64 (stE x false)) ∧ DK w' gd (doS x c) (grow T w w') ∧ Fr T w w' := by
  unfold stE doS
  rcases st_cases x false hP with ⟨h1, h2⟩ | ⟨i, f, hf, hn, hs, k1, k2⟩
  · rw [h2]
    exact do_no gd x T c w h hV h1 hP.len ok hm hmd
  · rw [hs]
    exact do_yes gd x T c w h hV i f hf hn hP.len k1 k2
end Go.Proofs.YtppooipamibhoaaGreatDoor
namespace Go.Proofs.YtppooipamibhoaaGreatDoor
open Go.RowKit
open Go.Deep
open Go.Lib
theorem Vd.mkC {x : StD} {c : Ch} (h : Vd x) (ok : okD x.now c) (h1 : x.loose.length < 10000) (h2 : x.made < 1000000) : Vd (mkC x c) := by
  refine ⟨?_, ?_, ?_, ?_⟩
  · exact okM.snoc h.ok (by show okD (doL x.sure x.loose) c; rw [← h.now]; exact ok)
  · show doC x.now c = doL x.sure (x.loose ++ [c])
    rw [h.now]
    simp [doL]
  · show (x.loose ++ [c]).length ≤ 10000
    simp
    omega
  · show x.made + 1 ≤ 1000000
    omega
theorem Vd.syC {x : StD} (h : Vd x) : Vd (syC x) := ⟨h.ok.end_, h.now, Nat.zero_le _, h.made⟩
theorem Vd.up {x : StD} (h : Vd x) : Vd { x with dead := false } := ⟨h.ok, h.now, h.many, h.made⟩
def x0 : StD := ⟨FS.none, FS.none, [], 0, [], false⟩
theorem Vd.x0 : Vd x0 := ⟨⟨Nat.zero_le _, fun _ => Nat.zero_le _⟩, rfl, Nat.zero_le _, Nat.zero_le _⟩
theorem Vd.bd {x : StD} (h : Vd x) : BdD x.now := by rw [h.now]; exact h.ok.end_
/-- A disk that was made behind B, and all of its memory with it. -/
structure DB (B w : World) (gd : Nat) (x : StD) (T : Nat → Prop) : Prop where
  dk : DK w gd x T
  bel : Below B.heap.size B w
  far : ∀ g, T g → B.heap.size ≤ g
section
variable {B w w' : World} {gd : Nat} {x x' : StD} {T : Nat → Prop}
theorem DB.step (h : DB B w gd x T) (hd : DK w' gd x' (grow T w w') ∧ Fr T w w') : DB B w' gd x' (grow T w w') :=
  ⟨hd.1, h.bel.trans (hd.2.below h.bel.size h.far), fun g hg => by
    rcases hg with hg | ⟨hg, _⟩
    · exact h.far g hg
    · exact Nat.le_trans h.bel.size hg⟩
theorem DB.next (h : DB B w gd x T) (hb : Below w.heap.size w w') : DB B w' gd x T := ⟨h.dk.below hb, h.bel.trans (hb.mono h.bel.size), h.far⟩
theorem DB.up (h : DB B w gd x T) (hd : DK w' gd x' T ∧ Fr T w w') : DB B w' gd x' T := ⟨hd.1, h.bel.trans (hd.2.below h.bel.size h.far), h.far⟩
end
/-- The name of the first file. -/
def nmA : ByteArray := ⟨#[97]⟩
def x1 : StD := mkC x0 (wrC nmA 0 ⟨#[120, 121]⟩)
def x2 : StD := syC x1
def x3 : StD := mkC x2 (wrC nmA 2 ⟨#[122]⟩)
def x4 : StD := crC x3 0 0
theorem rA : rdy false [nmA] = 0 := by decide +kernel
theorem at2 : (x2.now.at (lsD nmA)).length = 2 := by decide +kernel
theorem v1 : Vd x1 := Vd.x0.mkC (wr_ok Vd.x0.bd (by decide +kernel) (Nat.zero_le _) (by decide) (.inr (by decide))) (by decide) (by decide)
theorem v2 : Vd x2 := v1.syC
theorem v3 : Vd x3 := v2.mkC (wr_ok v2.bd (by decide +kernel) (by rw [at2]; exact Nat.le_refl _) (by decide) (.inl (by decide +kernel))) (by decide) (by decide)
theorem v4 : Vd x4 := flC_vd v3 0 0
theorem f5 : fnd { x4 with dead := false } nmA = 0 := by decide +kernel
theorem a5 : { x4 with dead := false }.now.at (lsD nmA) = [120, 121] := by decide +kernel
section
set_option maxRecDepth 10000
set_option maxHeartbeats 4000000
end
end Go.Proofs.YtppooipamibhoaaGreatDoor
namespace Go.Proofs.YtppooipamibhoaaGreatDoor
open Go.RowKit
open Go.Deep
open Go.Lib
/-- A removal that is made. -/
def rmC (nm : ByteArray) : Ch := ⟨3, nm, ⟨#[]⟩, 0, ⟨#[]⟩⟩
theorem at_del (f : FS) (k x : List UInt8) : (f.del k).at x = if x = k then [] else f.at x := by
  unfold FS.at
  rw [FS.del_get]
  split <;> rfl
theorem rm_ok {f : FS} {nm : ByteArray} (hb : BdD f) (hn : isName (lsD nm) = true) : okD f (rmC nm) := by
  have h32 := (name_len hn).2
  have hsz : nm.size ≤ 32 := by simpa using h32
  refine ⟨by simp [rmC], hsz, (by show ByteArray.size ⟨#[]⟩ ≤ 32; decide), fun h => absurd h (by simp [rmC]), (by show ByteArray.size ⟨#[]⟩ ≤ 16777216; decide), hb, ⟨?_, fun x => ?_⟩⟩
  · show (f.del (lsD nm)).n ≤ 64
    show (if (f.get (lsD nm)).isSome then f.n - 1 else f.n) ≤ 64
    have := hb.n
    split <;> omega
  · show ((f.del (lsD nm)).at x).length ≤ 16777216
    rw [at_del]
    split
    · simp
    · exact hb.len x
section
set_option maxRecDepth 10000
set_option maxHeartbeats 4000000
theorem remove_ok (gd : Nat) (x : StD) (T : Nat → Prop) (nm : ByteArray) (w : World) (h : DK w gd x T) (hV : Vd x) (hp : x.plan = []) (hf : fnd x nm = 0) (hn : isName (lsD nm) = true) (hmany : x.loose.length < 10000) (hmade : x.made < 1000000) : Calls Tryz.prog 134 #[.pointer (some ⟨gd, 0, none⟩), .string nm] w fun e w' => e = .returned (.int .i64 0) ∧ DK w' gd (mkC x (rmC nm)) (grow T w w') ∧ Fr T w w' := by
  have hm : nm.size ≤ maxLen := by
    have := (name_len hn).2
    have e : (lsD nm).length = nm.size := by simp
    unfold maxLen
    omega
  have HF := hide (find_any gd x T nm w h hm)
  rw [hf] at HF
  have HDo : Hid (∀ W, Below w.heap.size w W → Calls Tryz.prog 212 #[.pointer (some ⟨gd, 0, none⟩), .agg #[.int .i64 3, .string nm, .string ⟨#[]⟩, .int .i64 0, .string ⟨#[]⟩]] W fun e w' => e = .returned (.int .i64 0) ∧ DK w' gd (mkC x (rmC nm)) (grow T W w') ∧ Fr T W w') := fun W hb => do_any gd x T (rmC nm) W (h.below hb) hV hp (rm_ok hV.bd hn) hmany hmade
  have HL := hide h.lt
  clear h hV hp hf hn hmany hmade hm
  go_enter Tryz.func134, Tryz.ntmps134
  go_wp2_with (first | (go_at_call 196; refine HF.out.mono ?_; rintro e w1 ⟨⟨v, rfl, o⟩, hb⟩; have HB := hide hb; clear hb o) | (go_at_call 212; refine (HDo.out _ HB.out).mono ?_; rintro e w2 ⟨rfl, hd, hf⟩; have HE := hide (dk_grow HB.out HL.out hd hf); clear hd hf))
  go_ret
  exact ⟨rfl, HE.out⟩
end
end Go.Proofs.YtppooipamibhoaaGreatDoor
