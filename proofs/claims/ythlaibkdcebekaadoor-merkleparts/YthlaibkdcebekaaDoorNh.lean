/- The contract of tell: a step. -/
import Derived.Test.YthlaibkdcebekaaDoorNg
namespace Go.Proofs.YthlaibkdcebekaaDoor
open Go.RowKit
open Go.Deep
section
variable {w : World} {ops : Array Oper} {o : Oper} {a : Act} {K : Act → World → Prop} {Q : Exit → Act → World → Prop} {E0 : Prop}
/-- A new list of one id, as one step of a region that draws. -/
theorem ET.stepBs1 {t e : TypeId} (E : ET t e) (hgd : o.guard = none) (x : Operand) (ho : o.op = .buildSlice t 1 #[(0, x)]) (h : List UInt8) (hl : h.length = 32) (hx : a.eval x = .agg (hc h))
    (hk : K (a.put o.dst (.slice (some ⟨w.heap.size, 0, none⟩) 1 1)) (w.alloc (.cells (hc h) e))) :
    if Region.wanted o (yielded ops a.tmps) = true then Oper.wp Tryd.prog o a w K Q else E0 := by
  have hw : Region.wanted o (yielded ops a.tmps) = true := by simp [Region.wanted, hgd]
  rw [if_pos hw]
  unfold Oper.wp execOp
  simp only [ho, List.map_toArray, List.map_cons, List.map_nil, hx, E.bs1 w h hl, Sem.run_bind, Result.andThen_ok, Sem.run_pure]
  exact hk
end
section
set_option maxRecDepth 10000
set_option maxHeartbeats 4000000
theorem tell_step {B : World} {v0 v1 : Value} {ms : List Bool} {L : List (List UInt8)} {N gt n : Nat} (T : Tb B v0 v1 ms L N) (hms : ms.length = L.length) (K p : Nat) (hk : K < N) (hN : N ≤ 12) (hp : p < (lv L K).length) (hp3 : p ≤ 300)
    (IH : ∀ k, K = k + 1 → ∀ q, q < (lv L k).length → Told B v0 v1 ms L gt n k q) : Told B v0 v1 ms L gt n K p := by
  intro vb vi bs is W J hb1 hb2
  obtain ⟨g0, c0, rfl, H0⟩ := T.l0
  obtain ⟨g1, c1, rfl, H1⟩ := T.l1
  obtain ⟨y, hg1, hy, hyl⟩ := H1 K hk
  have r1 := World.rowIs.cell J.row (i := 1) (by decide)
  have r3 := World.rowIs.cell J.row (i := 3) (by decide)
  have q1 : W.cell? ⟨g1, K, none⟩ = some y := (J.bel.cell (p := ⟨g1, K, none⟩) hg1).trans hy
  have hyW := hyl.below J.bel
  obtain ⟨ay, cy, rfl, _⟩ := hyW.form
  have hml := mv_len ms L hms K
  obtain ⟨gy, offy, rfl⟩ := hyW.base (by omega)
  have q2 := hyW.cell p (by omega)
  rw [mv_mn] at q2
  have i1 : (0 : Int) ≤ (K : Int) := by omega
  have i2 : (K : Int) < (N : Int) := by omega
  have i3 : (0 : Int) ≤ (p : Int) := by omega
  have i4 : (p : Int) < ((mv ms K).length : Int) := by omega
  rw [show tc (.slice (some ⟨g0, 0, none⟩) N c0) (.slice (some ⟨g1, 0, none⟩) N c1) n vb vi 1 = .slice (some ⟨g1, 0, none⟩) N c1 from rfl] at r1
  rw [show tc (.slice (some ⟨g0, 0, none⟩) N c0) (.slice (some ⟨g1, 0, none⟩) N c1) n vb vi 3 = vb from rfl] at r3
  have HIH := hide IH
  have HNN := hide (And.intro hk (And.intro hp (And.intro hb1 (And.intro hb2 hml))))
  have HH0 := hide H0
  have HP3 := hide (And.intro hN hp3)
  have hpw : 0 < 2 ^ (K + 1) := Nat.pos_of_ne_zero (by simp)
  have SZ := hide (show bs.length ≤ 1000000 by omega)
  have J1 := hide (J.next ((Below.refl _ _).alloc (Nat.le_refl _) (.cells #[.bool (mn ms K p)] 4)))
  have C1 : Hid ((W.alloc (.cells #[.bool (mn ms K p)] 4)).cell? ⟨W.heap.size, 0, none⟩ = some (.bool (mn ms K p))) := by
    show _ = _
    rw [cell_of_row _ _ _ _ _ _ (heap_alloc_last W _)]
    rfl
  clear J IH hk hp hb1 hb2 hml T H0 H1 hy hyl hyW hms hN hp3 hpw
  generalize (mv ms K).length = ly at *
  generalize hmm : mn ms K p = mm at *
  have HMM := hide hmm
  clear hmm
  go_enter Tryd.func21, Tryd.ntmps21
  go_upto_region 2 with (first | (at_builtin; refine OB.wpApp rfl _ _ rfl rfl J1.out.bits ⟨W.heap.size, 0, none⟩ rfl mm C1.out SZ.out ?_; intro vb' W' ob on; obtain ⟨aob, cob, rfl⟩ := ob.form; have f3 := World.rowIs.frozen (J1.out.rowB on) 3; have g3 := World.rowIs.cell (J1.out.rowB on) (i := 3) (by decide); have J2 := hide (J1.out.bit ob on); clear ob on))
  rw [show (bs ++ [mm]).length = bs.length + 1 by simp] at J2
  generalize hW2 : W'.setCell ⟨gt, 3, none⟩ (.slice aob (bs.length + 1) cob) = W2 at *
  clear hW2 f3 g3 r1 r3 q1 q2 J1 C1 SZ
  generalize (Value.slice aob (bs.length + 1) cob) = vb2 at *
  by_cases hleaf : mm = false ∨ K = 0
  · have TL := hide (tl_leaf ms L K p (by rw [HMM.out]; exact hleaf))
    rw [HMM.out] at TL
    obtain ⟨x, hg0, hx, hxl⟩ := HH0.out K HNN.out.1
    have hp := HNN.out.2.1
    obtain ⟨ax, cx, rfl⟩ := hxl.form
    obtain ⟨gx, offx, rfl⟩ := hxl.base (by omega)
    have AL := hide (hxl.1.at p hp)
    have LC : Hid (∀ W, (Below B.heap.size B W ∧ ∃ u, W.rowIs gt 59 5 (tc (.slice (some ⟨g0, 0, none⟩) N c0) (.slice (some ⟨g1, 0, none⟩) N c1) n vb2 u)) → W.cell? ⟨gt, 0, none⟩ = some (.slice (some ⟨g0, 0, none⟩) N c0) ∧ W.cell? ⟨g0, K, none⟩ = some (.slice (some ⟨gx, offx, none⟩) (lv L K).length cx) ∧ W.rangeAt gx (offx + p * 32) (cellsL (ia (lv L K) p))) := fun W h =>
      ⟨World.rowIs.cell h.2.choose_spec (i := 0) (by decide), (h.1.cell (p := ⟨g0, K, none⟩) hg0).trans hx, (hxl.below h.1).range p hp⟩
    have i5 : (p : Int) < ((lv L K).length : Int) := by omega
    have SZ2 : Hid (is.length + 1 ≤ 4398046511104) := by
      show _ ≤ _
      have := Nat.le_of_add_right_le HNN.out.2.2.2.1
      omega
    generalize ia (lv L K) p = A at *
    generalize (lv L K).length = lx at *
    clear hx hxl hp
    have hcs : mm = false ∨ (mm = true ∧ ((K : Int) == 0) = true) := by
      cases mm
      · exact .inl rfl
      · refine .inr ⟨rfl, ?_⟩
        rcases hleaf with h | h
        · cases h
        · rw [h]
          rfl
    clear hleaf
    rcases hcs with rfl | ⟨rfl, hk0⟩
    all_goals
      go_upto_region 3 with fail
      refine wp_region_held_drew (S := fun W => Below B.heap.size B W ∧ ∃ u, W.rowIs gt 59 5 (tc (.slice (some ⟨g0, 0, none⟩) N c0) (.slice (some ⟨g1, 0, none⟩) N c1) n vb2 u)) (by kernel_rfl) ⟨J2.out.bel.drew, vi, J2.out.row⟩ (fun hH => ?_)
      refine wpAnyH_take (i := 0) (v := (.pointer (some ⟨gt, 0, none⟩))) rfl (by kernel_rfl) (by kernel_rfl) (by kernel_rfl) (fun _ _ _ h => h) (yl_move (by rfl) _ (by rfl) _ (by rfl)) hH ?_
      change wpAnyH _ _ _ _ _ _ _ (Act.put _ (some 37) _) _
      simp only [Act.put, List.setIfInBounds_toArray, List.set_cons_zero, List.set_cons_succ]
      refine wpAnyH_take (i := 1) (v := (.pointer (some ⟨gt, 0, none⟩))) rfl (by kernel_rfl) (by kernel_rfl) (by kernel_rfl) (fun _ _ _ h => h) (yl_move (by rfl) _ (by rfl) _ (by rfl)) hH ?_
      change wpAnyH _ _ _ _ _ _ _ (Act.put _ (some 38) _) _
      simp only [Act.put, List.setIfInBounds_toArray, List.set_cons_zero, List.set_cons_succ]
      refine wpAnyH_take (i := 2) (v := (.pointer (some ⟨gt, 0, none⟩))) rfl (by kernel_rfl) (by kernel_rfl) (by kernel_rfl) (fun _ _ _ h => h) (.inl ⟨by rfl, fun W _ => by go_simp⟩) hH ?_
      change wpAnyH _ _ _ _ _ _ _ (Act.put _ (some 39) _) _
      simp only [Act.put, List.setIfInBounds_toArray, List.set_cons_zero, List.set_cons_succ]
      refine wpAnyH_take (i := 3) (v := (.pointer (some ⟨gt, 2, none⟩))) rfl (by kernel_rfl) (by kernel_rfl) (by kernel_rfl) (fun _ _ _ h => h) (.inl ⟨by rfl, fun W _ => by go_simp⟩) hH ?_
      change wpAnyH _ _ _ _ _ _ _ (Act.put _ (some 40) _) _
      simp only [Act.put, List.setIfInBounds_toArray, List.set_cons_zero, List.set_cons_succ]
      refine wpAnyH_take (i := 4) (v := (.pointer (some ⟨gt, 4, none⟩))) rfl (by kernel_rfl) (by kernel_rfl) (by kernel_rfl) (fun _ _ _ h => h) (.inl ⟨by rfl, fun W _ => by go_simp⟩) hH ?_
      change wpAnyH _ _ _ _ _ _ _ (Act.put _ (some 41) _) _
      simp only [Act.put, List.setIfInBounds_toArray, List.set_cons_zero, List.set_cons_succ]
      refine wpAnyH_take (i := 6) (v := (.pointer (some ⟨gt, 0, none⟩))) rfl (by kernel_rfl) (by kernel_rfl) (by kernel_rfl) (fun _ _ _ h => h) (yl_move (by rfl) _ (by rfl) _ (by rfl)) hH ?_
      change wpAnyH _ _ _ _ _ _ _ (Act.put _ (some 43) _) _
      simp only [Act.put, List.setIfInBounds_toArray, List.set_cons_zero, List.set_cons_succ]
      refine wpAnyH_take (i := 7) (v := (.pointer (some ⟨gt, 0, none⟩))) rfl (by kernel_rfl) (by kernel_rfl) (by kernel_rfl) (fun _ _ _ h => h) (.inl ⟨by rfl, fun W _ => by go_simp⟩) hH ?_
      change wpAnyH _ _ _ _ _ _ _ (Act.put _ (some 44) _) _
      simp only [Act.put, List.setIfInBounds_toArray, List.set_cons_zero, List.set_cons_succ]
      refine wpAnyH_take (i := 8) (v := (.pointer (some ⟨gt, 0, none⟩))) rfl (by kernel_rfl) (by kernel_rfl) (by kernel_rfl) (fun _ _ _ h => h) (.inl ⟨by rfl, fun W _ => by go_simp⟩) hH ?_
      change wpAnyH _ _ _ _ _ _ _ (Act.put _ (some 45) _) _
      simp only [Act.put, List.setIfInBounds_toArray, List.set_cons_zero, List.set_cons_succ]
      refine wpAnyH_take (i := 9) (v := (.slice (some ⟨g0, 0, none⟩) N c0)) rfl (by kernel_rfl) (by kernel_rfl) (by kernel_rfl) (fun _ _ _ h => h) (.inl ⟨by rfl, fun W hS => by have c := LC.out W hS; have c4 := c.1; go_simp⟩) hH ?_
      change wpAnyH _ _ _ _ _ _ _ (Act.put _ (some 46) _) _
      simp only [Act.put, List.setIfInBounds_toArray, List.set_cons_zero, List.set_cons_succ]
      refine wpAnyH_take (i := 10) (v := (.int .i64 (K : Int))) rfl (by kernel_rfl) (by kernel_rfl) (by kernel_rfl) (fun _ _ _ h => h) (yl_move (by rfl) _ (by rfl) _ (by rfl)) hH ?_
      change wpAnyH _ _ _ _ _ _ _ (Act.put _ (some 47) _) _
      simp only [Act.put, List.setIfInBounds_toArray, List.set_cons_zero, List.set_cons_succ]
      refine wpAnyH_take (i := 11) (v := (.pointer (some ⟨g0, K, none⟩))) rfl (by kernel_rfl) (by kernel_rfl) (by kernel_rfl) (fun _ _ _ h => h) (.inl ⟨by rfl, fun W _ => by go_simp⟩) hH ?_
      change wpAnyH _ _ _ _ _ _ _ (Act.put _ (some 48) _) _
      simp only [Act.put, List.setIfInBounds_toArray, List.set_cons_zero, List.set_cons_succ]
      refine wpAnyH_take (i := 12) (v := (.slice (some ⟨gx, offx, none⟩) lx cx)) rfl (by kernel_rfl) (by kernel_rfl) (by kernel_rfl) (fun _ _ _ h => h) (.inl ⟨by rfl, fun W hS => by have c := LC.out W hS; have c4 := c.2.1; go_simp⟩) hH ?_
      change wpAnyH _ _ _ _ _ _ _ (Act.put _ (some 49) _) _
      simp only [Act.put, List.setIfInBounds_toArray, List.set_cons_zero, List.set_cons_succ]
      refine wpAnyH_take (i := 13) (v := (.int .i64 (p : Int))) rfl (by kernel_rfl) (by kernel_rfl) (by kernel_rfl) (fun _ _ _ h => h) (yl_move (by rfl) _ (by rfl) _ (by rfl)) hH ?_
      change wpAnyH _ _ _ _ _ _ _ (Act.put _ (some 50) _) _
      simp only [Act.put, List.setIfInBounds_toArray, List.set_cons_zero, List.set_cons_succ]
      refine wpAnyH_take (i := 14) (v := (.pointer (some ⟨gx, offx + p * 32, none⟩))) rfl (by kernel_rfl) (by kernel_rfl) (by kernel_rfl) (fun _ _ _ h => h) (.inl ⟨by rfl, fun W _ => by go_simp⟩) hH ?_
      change wpAnyH _ _ _ _ _ _ _ (Act.put _ (some 51) _) _
      simp only [Act.put, List.setIfInBounds_toArray, List.set_cons_zero, List.set_cons_succ]
      refine wpAnyH_take (i := 15) (v := (.agg (hc A))) rfl (by kernel_rfl) (by kernel_rfl) (by kernel_rfl) (fun _ _ _ h => h) (yl_load (by rfl) _ (by rfl) _ (hc A) (by rfl) (fun W hS => EH.load AL.out (LC.out W hS).2.2)) hH ?_
      change wpAnyH _ _ _ _ _ _ _ (Act.put _ (some 52) _) _
      simp only [Act.put, List.setIfInBounds_toArray, List.set_cons_zero, List.set_cons_succ]
      have J2d := hide (J2.out.next (Below.refl _ _).drew)
      have J3 := hide (J2d.out.next ((Below.refl _ _).alloc (Nat.le_refl _) (.cells (hc A) 39)))
      have N3 := hide (one_newH (e := 39) W2.drew A)
      have x4 := World.rowIs.cell J2d.out.row (i := 4) (by decide)
      have x5 := World.rowIs.cell J3.out.row (i := 4) (by decide)
      rw [show tc (.slice (some ⟨g0, 0, none⟩) N c0) (.slice (some ⟨g1, 0, none⟩) N c1) n vb2 vi 4 = vi from rfl] at x4 x5
      refine wpAnyH_ready (rs := [5, 16]) (by kernel_rfl) (by simp) (AllReadyH.cons rfl (fun K1 hK1 => ?_) (AllReadyH.cons rfl (fun K1 hK1 => ?_) AllReadyH.nil))
      · clear x5
        go_simp
        refine hK1.out _ _ ⟨J2d.out.bel, vi, J2d.out.row⟩ (fun hH => ?_)
        clear hK1
        refine wpAnyH_ready (rs := [16]) (by kernel_rfl) (by simp) (AllReadyH.cons rfl (fun K1 hK1 => ?_) AllReadyH.nil)
        refine ET.stepBs1 EH (by rfl) _ (by rfl) A AL.out (by rfl) ?_
        refine hK1.out _ _ ⟨J3.out.bel, vi, J3.out.row⟩ (fun hH => ?_)
        clear hK1
        change wpAnyH _ _ _ _ _ _ _ (Act.put _ (some 53) _) _
        simp only [Act.put, List.setIfInBounds_toArray, List.set_cons_zero, List.set_cons_succ]
        refine wpAnyH_ready (rs := [17]) (by kernel_rfl) (by simp) (AllReadyH.cons rfl (fun K1 hK1 => ?_) AllReadyH.nil)
        refine ET.step EH (by rfl) _ _ (by rfl) vi is (by rfl) J3.out.ids ⟨W2.drew.heap.size, 0, none⟩ A AL.out (by rfl) N3.out SZ2.out ?_
        intro v5 w5 o5 on5
        obtain ⟨ao5, c5, rfl⟩ := o5.form
        have f4 := World.rowIs.frozen (J3.out.rowI on5) 4
        have y4 := World.rowIs.cell (J3.out.rowI on5) (i := 4) (by decide)
        have J5 := hide (J3.out.idm o5 on5)
        have S5 := hide (And.intro (J3.out.bel.trans (on5.below J3.out.bel.size J3.out.ifar)) (J3.out.rowI on5))
        clear o5 on5
        refine hK1.out _ _ ⟨S5.out.1, vi, S5.out.2⟩ (fun hH => ?_)
        clear hK1
        change wpAnyH _ _ _ _ _ _ _ (Act.put _ (some 54) _) _
        simp only [Act.put, List.setIfInBounds_toArray, List.set_cons_zero, List.set_cons_succ]
        refine wpAnyH_take (i := 18) (v := (.pointer (some ⟨gt, 0, none⟩))) rfl (by kernel_rfl) (by kernel_rfl) (by kernel_rfl) (fun _ _ _ h => h) (.inl ⟨by rfl, fun W _ => by go_simp⟩) hH ?_
        change wpAnyH _ _ _ _ _ _ _ (Act.put _ (some 55) _) _
        simp only [Act.put, List.setIfInBounds_toArray, List.set_cons_zero, List.set_cons_succ]
        refine wpAnyH_take (i := 19) (v := (.pointer (some ⟨gt, 2, none⟩))) rfl (by kernel_rfl) (by kernel_rfl) (by kernel_rfl) (fun _ _ _ h => h) (.inl ⟨by rfl, fun W _ => by go_simp⟩) hH ?_
        change wpAnyH _ _ _ _ _ _ _ (Act.put _ (some 56) _) _
        simp only [Act.put, List.setIfInBounds_toArray, List.set_cons_zero, List.set_cons_succ]
        refine wpAnyH_take (i := 20) (v := (.pointer (some ⟨gt, 4, none⟩))) rfl (by kernel_rfl) (by kernel_rfl) (by kernel_rfl) (fun _ _ _ h => h) (.inl ⟨by rfl, fun W _ => by go_simp⟩) hH ?_
        change wpAnyH _ _ _ _ _ _ _ (Act.put _ (some 57) _) _
        simp only [Act.put, List.setIfInBounds_toArray, List.set_cons_zero, List.set_cons_succ]
        refine wpAnyH_ready (rs := [21]) (by kernel_rfl) (by simp) (AllReadyH.cons rfl (fun K1 hK1 => ?_) AllReadyH.nil)
        go_simp
        rw [show (is ++ [A]).length = is.length + 1 by simp] at J5
        refine hK1.out _ _ ⟨J5.out.bel, _, J5.out.row⟩ (fun hH => ?_)
        clear hK1
        refine wpAnyH_done (by kernel_rfl) ?_ _
        go_wp2
        refine bodyPost_ret (results_none (by kernel_rfl) _ _ _) rfl ?_
        exact ⟨⟨_, rfl⟩, _, _, by rw [TL.out]; exact J5.out⟩
      · clear x4
        refine ET.stepBs1 EH (by rfl) _ (by rfl) A AL.out (by rfl) ?_
        refine hK1.out _ _ ⟨J3.out.bel, vi, J3.out.row⟩ (fun hH => ?_)
        clear hK1
        change wpAnyH _ _ _ _ _ _ _ (Act.put _ (some 53) _) _
        simp only [Act.put, List.setIfInBounds_toArray, List.set_cons_zero, List.set_cons_succ]
        generalize W2.drew.alloc (.cells (hc A) 39) = W3 at *
        refine wpAnyH_ready (rs := [5]) (by kernel_rfl) (by simp) (AllReadyH.cons rfl (fun K1 hK1 => ?_) AllReadyH.nil)
        go_simp
        refine hK1.out _ _ ⟨J3.out.bel, vi, J3.out.row⟩ (fun hH => ?_)
        clear hK1
        refine wpAnyH_ready (rs := [17]) (by kernel_rfl) (by simp) (AllReadyH.cons rfl (fun K1 hK1 => ?_) AllReadyH.nil)
        refine ET.step EH (by rfl) _ _ (by rfl) vi is (by rfl) J3.out.ids ⟨W2.drew.heap.size, 0, none⟩ A AL.out (by rfl) N3.out SZ2.out ?_
        intro v5 w5 o5 on5
        obtain ⟨ao5, c5, rfl⟩ := o5.form
        have f4 := World.rowIs.frozen (J3.out.rowI on5) 4
        have y4 := World.rowIs.cell (J3.out.rowI on5) (i := 4) (by decide)
        have J5 := hide (J3.out.idm o5 on5)
        have S5 := hide (And.intro (J3.out.bel.trans (on5.below J3.out.bel.size J3.out.ifar)) (J3.out.rowI on5))
        clear o5 on5
        refine hK1.out _ _ ⟨S5.out.1, vi, S5.out.2⟩ (fun hH => ?_)
        clear hK1
        change wpAnyH _ _ _ _ _ _ _ (Act.put _ (some 54) _) _
        simp only [Act.put, List.setIfInBounds_toArray, List.set_cons_zero, List.set_cons_succ]
        refine wpAnyH_take (i := 18) (v := (.pointer (some ⟨gt, 0, none⟩))) rfl (by kernel_rfl) (by kernel_rfl) (by kernel_rfl) (fun _ _ _ h => h) (.inl ⟨by rfl, fun W _ => by go_simp⟩) hH ?_
        change wpAnyH _ _ _ _ _ _ _ (Act.put _ (some 55) _) _
        simp only [Act.put, List.setIfInBounds_toArray, List.set_cons_zero, List.set_cons_succ]
        refine wpAnyH_take (i := 19) (v := (.pointer (some ⟨gt, 2, none⟩))) rfl (by kernel_rfl) (by kernel_rfl) (by kernel_rfl) (fun _ _ _ h => h) (.inl ⟨by rfl, fun W _ => by go_simp⟩) hH ?_
        change wpAnyH _ _ _ _ _ _ _ (Act.put _ (some 56) _) _
        simp only [Act.put, List.setIfInBounds_toArray, List.set_cons_zero, List.set_cons_succ]
        refine wpAnyH_take (i := 20) (v := (.pointer (some ⟨gt, 4, none⟩))) rfl (by kernel_rfl) (by kernel_rfl) (by kernel_rfl) (fun _ _ _ h => h) (.inl ⟨by rfl, fun W _ => by go_simp⟩) hH ?_
        change wpAnyH _ _ _ _ _ _ _ (Act.put _ (some 57) _) _
        simp only [Act.put, List.setIfInBounds_toArray, List.set_cons_zero, List.set_cons_succ]
        refine wpAnyH_ready (rs := [21]) (by kernel_rfl) (by simp) (AllReadyH.cons rfl (fun K1 hK1 => ?_) AllReadyH.nil)
        go_simp
        rw [show (is ++ [A]).length = is.length + 1 by simp] at J5
        refine hK1.out _ _ ⟨J5.out.bel, _, J5.out.row⟩ (fun hH => ?_)
        clear hK1
        refine wpAnyH_done (by kernel_rfl) ?_ _
        go_wp2
        refine bodyPost_ret (results_none (by kernel_rfl) _ _ _) rfl ?_
        exact ⟨⟨_, rfl⟩, _, _, by rw [TL.out]; exact J5.out⟩
  · obtain rfl : mm = true := by
      cases mm
      · exact absurd (.inl rfl) hleaf
      · rfl
    obtain ⟨k, hkk⟩ : ∃ k, K = k + 1 := ⟨K - 1, by omega⟩
    have hk0 : ((K : Int) == 0) = false := by rw [beq_eq_false_iff_ne]; omega
    have TI : Hid (tl ms L K p = (true :: ((tl ms L k (2 * p)).1 ++ if 2 * p + 1 < (lv L k).length then (tl ms L k (2 * p + 1)).1 else []), (tl ms L k (2 * p)).2 ++ if 2 * p + 1 < (lv L k).length then (tl ms L k (2 * p + 1)).2 else [])) := by
      have h := HMM.out
      rw [hkk] at h ⊢
      exact tl_inner ms L k p h
    obtain ⟨hk, hp, hb1, hb2, _⟩ := HNN.out
    have hl2 : (lv L K).length = ((lv L k).length + 1) / 2 := by rw [hkk, lv, nxt_len]
    have I1 := hide (HIH.out k hkk (2 * p) (by omega))
    have I2 := hide fun h => HIH.out k hkk (2 * p + 1) h
    have e2 : 2 ^ (K + 1) = 2 * 2 ^ (k + 1) := by rw [hkk, Nat.pow_succ']
    have hpw : 0 < 2 ^ (k + 1) := Nat.pos_of_ne_zero (by simp)
    have tl1 := tl_len ms L k (2 * p)
    have B1 : Hid ((bs ++ [true]).length + 2 ^ (k + 1) ≤ 1000000) := by
      show _ ≤ _
      rw [List.length_append, List.length_singleton]
      omega
    have B2 := hide (show is.length + 2 ^ (k + 1) ≤ 1000000 by omega)
    have B3 : Hid ((bs ++ [true] ++ (tl ms L k (2 * p)).1).length + 2 ^ (k + 1) ≤ 1000000) := by
      show _ ≤ _
      rw [List.length_append, List.length_append, List.length_singleton]
      omega
    have B4 : Hid ((is ++ (tl ms L k (2 * p)).2).length + 2 ^ (k + 1) ≤ 1000000) := by
      show _ ≤ _
      rw [List.length_append]
      omega
    obtain ⟨hN, hp3⟩ := HP3.out
    have w1 : IntKind.i64.wrap (2 * (p : Int)) = ((2 * p : Nat) : Int) := by rw [wrapI _ (by omega) (by omega)]; omega
    have w2 : IntKind.i64.wrap ((K : Int) - 1) = (k : Int) := by rw [wrapI _ (by omega) (by omega)]; omega
    have w3 : IntKind.i64.wrap (((2 * p : Nat) : Int) + 1) = ((2 * p + 1 : Nat) : Int) := by rw [wrapI _ (by omega) (by omega)]; omega
    obtain ⟨x, hg0, hx, hxl⟩ := HH0.out k (by omega)
    obtain ⟨ax, cx, rfl⟩ := hxl.form
    have i6 : (0 : Int) ≤ (k : Int) := by omega
    have i7 : (k : Int) < (N : Int) := by omega
    have HX := hide (And.intro hg0 hx)
    clear hleaf hkk hk hp hb1 hb2 hl2 e2 hpw tl1 hN hp3 hx hxl hg0 HIH
    generalize hqq : 2 * p = q at *
    generalize hq1 : q + 1 = q1 at *
    clear hqq
    go_upto_region 6 with (first | (go_at_call 21; refine (I1.out _ _ _ _ _ J2.out B1.out B2.out).mono ?_; rintro e w4 ⟨⟨r, rfl⟩, vb3, vi3, j3⟩; have J3 := hide j3; clear j3))
    have x0 := World.rowIs.cell J3.out.row (i := 0) (by decide)
    rw [show tc (.slice (some ⟨g0, 0, none⟩) N c0) (.slice (some ⟨g1, 0, none⟩) N c1) n vb3 vi3 0 = .slice (some ⟨g0, 0, none⟩) N c0 from rfl] at x0
    have x1 := (J3.out.bel.cell (p := ⟨g0, k, none⟩) HX.out.1).trans HX.out.2
    by_cases hsec : q1 < (lv L k).length
    · have h5 : (q1 : Int) < ((lv L k).length : Int) := by omega
      have I3 := hide (I2.out hsec)
      rw [if_pos hsec, if_pos hsec] at TI
      clear hsec I2
      go_wp2_with (first | (go_at_call 21; refine (I3.out _ _ _ _ _ J3.out B3.out B4.out).mono ?_; rintro e w5 ⟨⟨r2, rfl⟩, vb4, vi4, j4⟩; have J4 := hide j4; clear j4))
      refine bodyPost_end (results_none (by kernel_rfl) _ _ _) rfl ?_
      exact ⟨⟨_, rfl⟩, _, _, by rw [TI.out]; simpa using J4.out⟩
    · have h5 : ¬ (q1 : Int) < ((lv L k).length : Int) := by omega
      rw [if_neg hsec, if_neg hsec] at TI
      clear hsec I2
      go_wp2_with fail
      refine bodyPost_end (results_none (by kernel_rfl) _ _ _) rfl ?_
      exact ⟨⟨_, rfl⟩, _, _, by rw [TI.out]; simpa using J3.out⟩
end
theorem tell_any {B : World} {v0 v1 : Value} {ms : List Bool} {L : List (List UInt8)} {N gt n : Nat} (T : Tb B v0 v1 ms L N) (hms : ms.length = L.length) (hn : L.length ≤ 300) (hN : N ≤ 12) : ∀ k, k < N → ∀ p, p < (lv L k).length → Told B v0 v1 ms L gt n k p
  | 0, hk, p, hp => tell_step T hms 0 p hk hN hp (by have := lv_le L 0; omega) (fun k e => by omega)
  | k + 1, hk, p, hp => tell_step T hms (k + 1) p hk hN hp (by have := lv_le L (k + 1); omega) (fun k' e q hq => by
      obtain rfl : k = k' := by omega
      exact tell_any T hms hn hN k (by omega) q hq)
end Go.Proofs.YthlaibkdcebekaaDoor
