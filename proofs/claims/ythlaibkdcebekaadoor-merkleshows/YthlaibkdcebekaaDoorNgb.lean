/- The contract of tell. The contract of tell: a step. The contract of Part: a list and as many marks. -/
import Derived.Test.YthlaibkdcebekaaDoorNf
import Derived.Test.YthlaibkdcebekaaDoorMy
namespace Go.Proofs.YthlaibkdcebekaaDoor
open Go.RowKit
open Go.Deep
theorem tl_len (ms : List Bool) (L : List (List UInt8)) : ∀ k p, (tl ms L k p).1.length < 2 ^ (k + 1) ∧ (tl ms L k p).2.length < 2 ^ (k + 1)
  | 0, p => by simp [tl]
  | k + 1, p => by
    have h1 := tl_len ms L k (2 * p)
    have h2 := tl_len ms L k (2 * p + 1)
    have e : 2 ^ (k + 1 + 1) = 2 * 2 ^ (k + 1) := Nat.pow_succ'
    have hp : 0 < 2 ^ (k + 1) := Nat.pos_of_ne_zero (by simp)
    rw [tl]
    split
    · split
      · simp only [List.length_cons, List.length_append]
        omega
      · simp only [List.length_cons, List.length_append, List.length_nil]
        omega
    · simp only [List.length_cons, List.length_nil]
      omega
/-- The levels that a teller reads. -/
structure Tb (B : World) (v0 v1 : Value) (ms : List Bool) (L : List (List UInt8)) (N : Nat) : Prop where
  l0 : ∃ g c, v0 = .slice (some ⟨g, 0, none⟩) N c ∧ ∀ i, i < N → ∃ x, g < B.heap.size ∧ B.cell? ⟨g, i, none⟩ = some x ∧ LH B x (lv L i)
  l1 : ∃ g c, v1 = .slice (some ⟨g, 0, none⟩) N c ∧ ∀ i, i < N → ∃ x, g < B.heap.size ∧ B.cell? ⟨g, i, none⟩ = some x ∧ LB B x (mv ms i)
theorem tl_leaf (ms : List Bool) (L : List (List UInt8)) (K p : Nat) (h : mn ms K p = false ∨ K = 0) : tl ms L K p = ([mn ms K p], [ia (lv L K) p]) := by
  rcases K with _ | k
  · rfl
  · rw [tl]
    rcases h with h | h
    · rw [h]
      rfl
    · omega
theorem tl_inner (ms : List Bool) (L : List (List UInt8)) (k p : Nat) (h : mn ms (k + 1) p = true) : tl ms L (k + 1) p =
    (true :: ((tl ms L k (2 * p)).1 ++ if 2 * p + 1 < (lv L k).length then (tl ms L k (2 * p + 1)).1 else []), (tl ms L k (2 * p)).2 ++ if 2 * p + 1 < (lv L k).length then (tl ms L k (2 * p + 1)).2 else []) := by
  rw [tl, if_pos h]
section
variable {B W W' : World} {gt n : Nat} {v0 v1 vb vi v' : Value} {bs : List Bool} {is : List (List UInt8)}
theorem Ts.rowB (j : Ts B W gt v0 v1 n vb vi bs is) (h : Onto W W' vb v') : W'.rowIs gt 59 5 (tc v0 v1 n vb vi) :=
  World.rowIs.of_block j.row (h.grown.block _ (World.rowIs.lt j.row) (fun e => j.tb e.symm))
theorem Ts.rowI (j : Ts B W gt v0 v1 n vb vi bs is) (h : Onto W W' vi v') : W'.rowIs gt 59 5 (tc v0 v1 n vb vi) :=
  World.rowIs.of_block j.row (h.grown.block _ (World.rowIs.lt j.row) (fun e => j.ti e.symm))
end
/-- What tell does at a level and a place. -/
def Told (B : World) (v0 v1 : Value) (ms : List Bool) (L : List (List UInt8)) (gt n k p : Nat) : Prop :=
  ∀ (vb vi : Value) (bs : List Bool) (is : List (List UInt8)) (W : World), Ts B W gt v0 v1 n vb vi bs is → bs.length + 2 ^ (k + 1) ≤ 1000000 → is.length + 2 ^ (k + 1) ≤ 1000000 →
    Calls Tryd.prog 21 #[.pointer (some ⟨gt, 0, none⟩), .int .i64 (k : Int), .int .i64 (p : Int)] W fun e w' => (∃ r, e = .returned r) ∧ ∃ vb' vi', Ts B w' gt v0 v1 n vb' vi' (bs ++ (tl ms L k p).1) (is ++ (tl ms L k p).2)
end Go.Proofs.YthlaibkdcebekaaDoor
namespace Go.Proofs.YthlaibkdcebekaaDoor
open Go.RowKit
open Go.Deep
section
variable {w : World} {ops : Array Oper} {o : Oper} {a : Act} {K : Act → World → Prop} {Q : Exit → Act → World → Prop} {E0 : Prop}
/-- A new list of one id, as one step of a region that draws. -/
theorem ET.stepBs1 {t e : TypeId} (E : ET t e) (hgd : o.guard = none) (x : Operand) (ho : o.op = .buildSlice t 1 #[(0, x)]) (h : List UInt8) (hl : h.length = 32) (hx : a.eval x = .agg (hc h))
    (hk : K (a.put o.dst (.slice (some ⟨w.heap.size, 0, none⟩) 1 1)) (w.alloc (.cells (hc h) e))) :
    if Region.wanted o (yielded ops a.tmps) = true then Oper.wp Tryd.prog o a w K Q else E0 := by
  have hw : Region.wanted o (yielded ops a.tmps) = true := by simp [Region.wanted, hgd]
  rw [if_pos hw]
  unfold Oper.wp execOp
  simp only [ho, List.map_toArray, List.map_cons, List.map_nil, hx, E.bs1 w h hl, Sem.run_bind, Result.andThen_ok, Sem.run_pure]
  exact hk
end
section
set_option maxRecDepth 10000
set_option maxHeartbeats 4000000
theorem tell_step {B : World} {v0 v1 : Value} {ms : List Bool} {L : List (List UInt8)} {N gt n : Nat} (T : Tb B v0 v1 ms L N) (hms : ms.length = L.length) (K p : Nat) (hk : K < N) (hN : N ≤ 12) (hp : p < (lv L K).length) (hp3 : p ≤ 300)
    (IH : ∀ k, K = k + 1 → ∀ q, q < (lv L k).length → Told B v0 v1 ms L gt n k q) : Told B v0 v1 ms L gt n K p := by
  intro vb vi bs is W J hb1 hb2
  obtain ⟨g0, c0, rfl, H0⟩ := T.l0
  obtain ⟨g1, c1, rfl, H1⟩ := T.l1
  obtain ⟨y, hg1, hy, hyl⟩ := H1 K hk
  have r1 := World.rowIs.cell J.row (i := 1) (by decide)
  have r3 := World.rowIs.cell J.row (i := 3) (by decide)
  have q1 : W.cell? ⟨g1, K, none⟩ = some y := (J.bel.cell (p := ⟨g1, K, none⟩) hg1).trans hy
  have hyW := hyl.below J.bel
  obtain ⟨ay, cy, rfl, _⟩ := hyW.form
  have hml := mv_len ms L hms K
  obtain ⟨gy, offy, rfl⟩ := hyW.base (by omega)
  have q2 := hyW.cell p (by omega)
  rw [mv_mn] at q2
  have i1 : (0 : Int) ≤ (K : Int) := by omega
  have i2 : (K : Int) < (N : Int) := by omega
  have i3 : (0 : Int) ≤ (p : Int) := by omega
  have i4 : (p : Int) < ((mv ms K).length : Int) := by omega
  rw [show tc (.slice (some ⟨g0, 0, none⟩) N c0) (.slice (some ⟨g1, 0, none⟩) N c1) n vb vi 1 = .slice (some ⟨g1, 0, none⟩) N c1 from rfl] at r1
  rw [show tc (.slice (some ⟨g0, 0, none⟩) N c0) (.slice (some ⟨g1, 0, none⟩) N c1) n vb vi 3 = vb from rfl] at r3
  have HIH := hide IH
  have HNN := hide (And.intro hk (And.intro hp (And.intro hb1 (And.intro hb2 hml))))
  have HH0 := hide H0
  have HP3 := hide (And.intro hN hp3)
  have hpw : 0 < 2 ^ (K + 1) := Nat.pos_of_ne_zero (by simp)
  have SZ := hide (show bs.length ≤ 1000000 by omega)
  have J1 := hide (J.next ((Below.refl _ _).alloc (Nat.le_refl _) (.cells #[.bool (mn ms K p)] 4)))
  have C1 : Hid ((W.alloc (.cells #[.bool (mn ms K p)] 4)).cell? ⟨W.heap.size, 0, none⟩ = some (.bool (mn ms K p))) := by
    show _ = _
    rw [cell_of_row _ _ _ _ _ _ (heap_alloc_last W _)]
    rfl
  clear J IH hk hp hb1 hb2 hml T H0 H1 hy hyl hyW hms hN hp3 hpw
  generalize (mv ms K).length = ly at *
  generalize hmm : mn ms K p = mm at *
  have HMM := hide hmm
  clear hmm
  go_enter Tryd.func21, Tryd.ntmps21
  go_upto_region 2 with (first | (at_builtin; refine OB.wpApp rfl _ _ rfl rfl J1.out.bits ⟨W.heap.size, 0, none⟩ rfl mm C1.out SZ.out ?_; intro vb' W' ob on; obtain ⟨aob, cob, rfl⟩ := ob.form; have f3 := World.rowIs.frozen (J1.out.rowB on) 3; have g3 := World.rowIs.cell (J1.out.rowB on) (i := 3) (by decide); have J2 := hide (J1.out.bit ob on); clear ob on))
  rw [show (bs ++ [mm]).length = bs.length + 1 by simp] at J2
  generalize hW2 : W'.setCell ⟨gt, 3, none⟩ (.slice aob (bs.length + 1) cob) = W2 at *
  clear hW2 f3 g3 r1 r3 q1 q2 J1 C1 SZ
  generalize (Value.slice aob (bs.length + 1) cob) = vb2 at *
  by_cases hleaf : mm = false ∨ K = 0
  · have TL := hide (tl_leaf ms L K p (by rw [HMM.out]; exact hleaf))
    rw [HMM.out] at TL
    obtain ⟨x, hg0, hx, hxl⟩ := HH0.out K HNN.out.1
    have hp := HNN.out.2.1
    obtain ⟨ax, cx, rfl⟩ := hxl.form
    obtain ⟨gx, offx, rfl⟩ := hxl.base (by omega)
    have AL := hide (hxl.1.at p hp)
    have LC : Hid (∀ W, (Below B.heap.size B W ∧ ∃ u, W.rowIs gt 59 5 (tc (.slice (some ⟨g0, 0, none⟩) N c0) (.slice (some ⟨g1, 0, none⟩) N c1) n vb2 u)) → W.cell? ⟨gt, 0, none⟩ = some (.slice (some ⟨g0, 0, none⟩) N c0) ∧ W.cell? ⟨g0, K, none⟩ = some (.slice (some ⟨gx, offx, none⟩) (lv L K).length cx) ∧ W.rangeAt gx (offx + p * 32) (cellsL (ia (lv L K) p))) := fun W h =>
      ⟨World.rowIs.cell h.2.choose_spec (i := 0) (by decide), (h.1.cell (p := ⟨g0, K, none⟩) hg0).trans hx, (hxl.below h.1).range p hp⟩
    have i5 : (p : Int) < ((lv L K).length : Int) := by omega
    have SZ2 : Hid (is.length + 1 ≤ 4398046511104) := by
      show _ ≤ _
      have := Nat.le_of_add_right_le HNN.out.2.2.2.1
      omega
    generalize ia (lv L K) p = A at *
    generalize (lv L K).length = lx at *
    clear hx hxl hp
    have hcs : mm = false ∨ (mm = true ∧ ((K : Int) == 0) = true) := by
      cases mm
      · exact .inl rfl
      · refine .inr ⟨rfl, ?_⟩
        rcases hleaf with h | h
        · cases h
        · rw [h]
          rfl
    clear hleaf
    rcases hcs with rfl | ⟨rfl, hk0⟩
    all_goals
      go_upto_region 3 with fail
      refine wp_region_held_drew (S := fun W => Below B.heap.size B W ∧ ∃ u, W.rowIs gt 59 5 (tc (.slice (some ⟨g0, 0, none⟩) N c0) (.slice (some ⟨g1, 0, none⟩) N c1) n vb2 u)) (by kernel_rfl) ⟨J2.out.bel.drew, vi, J2.out.row⟩ (fun hH => ?_)
      refine wpAnyH_take (i := 0) (v := (.pointer (some ⟨gt, 0, none⟩))) rfl (by kernel_rfl) (by kernel_rfl) (by kernel_rfl) (fun _ _ _ h => h) (yl_move (by rfl) _ (by rfl) _ (by rfl)) hH ?_
      change wpAnyH _ _ _ _ _ _ _ (Act.put _ (some 37) _) _
      simp only [Act.put, List.setIfInBounds_toArray, List.set_cons_zero, List.set_cons_succ]
      refine wpAnyH_take (i := 1) (v := (.pointer (some ⟨gt, 0, none⟩))) rfl (by kernel_rfl) (by kernel_rfl) (by kernel_rfl) (fun _ _ _ h => h) (yl_move (by rfl) _ (by rfl) _ (by rfl)) hH ?_
      change wpAnyH _ _ _ _ _ _ _ (Act.put _ (some 38) _) _
      simp only [Act.put, List.setIfInBounds_toArray, List.set_cons_zero, List.set_cons_succ]
      refine wpAnyH_take (i := 2) (v := (.pointer (some ⟨gt, 0, none⟩))) rfl (by kernel_rfl) (by kernel_rfl) (by kernel_rfl) (fun _ _ _ h => h) (.inl ⟨by rfl, fun W _ => by go_simp⟩) hH ?_
      change wpAnyH _ _ _ _ _ _ _ (Act.put _ (some 39) _) _
      simp only [Act.put, List.setIfInBounds_toArray, List.set_cons_zero, List.set_cons_succ]
      refine wpAnyH_take (i := 3) (v := (.pointer (some ⟨gt, 2, none⟩))) rfl (by kernel_rfl) (by kernel_rfl) (by kernel_rfl) (fun _ _ _ h => h) (.inl ⟨by rfl, fun W _ => by go_simp⟩) hH ?_
      change wpAnyH _ _ _ _ _ _ _ (Act.put _ (some 40) _) _
      simp only [Act.put, List.setIfInBounds_toArray, List.set_cons_zero, List.set_cons_succ]
      refine wpAnyH_take (i := 4) (v := (.pointer (some ⟨gt, 4, none⟩))) rfl (by kernel_rfl) (by kernel_rfl) (by kernel_rfl) (fun _ _ _ h => h) (.inl ⟨by rfl, fun W _ => by go_simp⟩) hH ?_
      change wpAnyH _ _ _ _ _ _ _ (Act.put _ (some 41) _) _
      simp only [Act.put, List.setIfInBounds_toArray, List.set_cons_zero, List.set_cons_succ]
      refine wpAnyH_take (i := 6) (v := (.pointer (some ⟨gt, 0, none⟩))) rfl (by kernel_rfl) (by kernel_rfl) (by kernel_rfl) (fun _ _ _ h => h) (yl_move (by rfl) _ (by rfl) _ (by rfl)) hH ?_
      change wpAnyH _ _ _ _ _ _ _ (Act.put _ (some 43) _) _
      simp only [Act.put, List.setIfInBounds_toArray, List.set_cons_zero, List.set_cons_succ]
      refine wpAnyH_take (i := 7) (v := (.pointer (some ⟨gt, 0, none⟩))) rfl (by kernel_rfl) (by kernel_rfl) (by kernel_rfl) (fun _ _ _ h => h) (.inl ⟨by rfl, fun W _ => by go_simp⟩) hH ?_
      change wpAnyH _ _ _ _ _ _ _ (Act.put _ (some 44) _) _
      simp only [Act.put, List.setIfInBounds_toArray, List.set_cons_zero, List.set_cons_succ]
      refine wpAnyH_take (i := 8) (v := (.pointer (some ⟨gt, 0, none⟩))) rfl (by kernel_rfl) (by kernel_rfl) (by kernel_rfl) (fun _ _ _ h => h) (.inl ⟨by rfl, fun W _ => by go_simp⟩) hH ?_
      change wpAnyH _ _ _ _ _ _ _ (Act.put _ (some 45) _) _
      simp only [Act.put, List.setIfInBounds_toArray, List.set_cons_zero, List.set_cons_succ]
      refine wpAnyH_take (i := 9) (v := (.slice (some ⟨g0, 0, none⟩) N c0)) rfl (by kernel_rfl) (by kernel_rfl) (by kernel_rfl) (fun _ _ _ h => h) (.inl ⟨by rfl, fun W hS => by have c := LC.out W hS; have c4 := c.1; go_simp⟩) hH ?_
      change wpAnyH _ _ _ _ _ _ _ (Act.put _ (some 46) _) _
      simp only [Act.put, List.setIfInBounds_toArray, List.set_cons_zero, List.set_cons_succ]
      refine wpAnyH_take (i := 10) (v := (.int .i64 (K : Int))) rfl (by kernel_rfl) (by kernel_rfl) (by kernel_rfl) (fun _ _ _ h => h) (yl_move (by rfl) _ (by rfl) _ (by rfl)) hH ?_
      change wpAnyH _ _ _ _ _ _ _ (Act.put _ (some 47) _) _
      simp only [Act.put, List.setIfInBounds_toArray, List.set_cons_zero, List.set_cons_succ]
      refine wpAnyH_take (i := 11) (v := (.pointer (some ⟨g0, K, none⟩))) rfl (by kernel_rfl) (by kernel_rfl) (by kernel_rfl) (fun _ _ _ h => h) (.inl ⟨by rfl, fun W _ => by go_simp⟩) hH ?_
      change wpAnyH _ _ _ _ _ _ _ (Act.put _ (some 48) _) _
      simp only [Act.put, List.setIfInBounds_toArray, List.set_cons_zero, List.set_cons_succ]
      refine wpAnyH_take (i := 12) (v := (.slice (some ⟨gx, offx, none⟩) lx cx)) rfl (by kernel_rfl) (by kernel_rfl) (by kernel_rfl) (fun _ _ _ h => h) (.inl ⟨by rfl, fun W hS => by have c := LC.out W hS; have c4 := c.2.1; go_simp⟩) hH ?_
      change wpAnyH _ _ _ _ _ _ _ (Act.put _ (some 49) _) _
      simp only [Act.put, List.setIfInBounds_toArray, List.set_cons_zero, List.set_cons_succ]
      refine wpAnyH_take (i := 13) (v := (.int .i64 (p : Int))) rfl (by kernel_rfl) (by kernel_rfl) (by kernel_rfl) (fun _ _ _ h => h) (yl_move (by rfl) _ (by rfl) _ (by rfl)) hH ?_
      change wpAnyH _ _ _ _ _ _ _ (Act.put _ (some 50) _) _
      simp only [Act.put, List.setIfInBounds_toArray, List.set_cons_zero, List.set_cons_succ]
      refine wpAnyH_take (i := 14) (v := (.pointer (some ⟨gx, offx + p * 32, none⟩))) rfl (by kernel_rfl) (by kernel_rfl) (by kernel_rfl) (fun _ _ _ h => h) (.inl ⟨by rfl, fun W _ => by go_simp⟩) hH ?_
      change wpAnyH _ _ _ _ _ _ _ (Act.put _ (some 51) _) _
      simp only [Act.put, List.setIfInBounds_toArray, List.set_cons_zero, List.set_cons_succ]
      refine wpAnyH_take (i := 15) (v := (.agg (hc A))) rfl (by kernel_rfl) (by kernel_rfl) (by kernel_rfl) (fun _ _ _ h => h) (yl_load (by rfl) _ (by rfl) _ (hc A) (by rfl) (fun W hS => EH.load AL.out (LC.out W hS).2.2)) hH ?_
      change wpAnyH _ _ _ _ _ _ _ (Act.put _ (some 52) _) _
      simp only [Act.put, List.setIfInBounds_toArray, List.set_cons_zero, List.set_cons_succ]
      have J2d := hide (J2.out.next (Below.refl _ _).drew)
      have J3 := hide (J2d.out.next ((Below.refl _ _).alloc (Nat.le_refl _) (.cells (hc A) 39)))
      have N3 := hide (one_newH (e := 39) W2.drew A)
      have x4 := World.rowIs.cell J2d.out.row (i := 4) (by decide)
      have x5 := World.rowIs.cell J3.out.row (i := 4) (by decide)
      rw [show tc (.slice (some ⟨g0, 0, none⟩) N c0) (.slice (some ⟨g1, 0, none⟩) N c1) n vb2 vi 4 = vi from rfl] at x4 x5
      refine wpAnyH_ready (rs := [5, 16]) (by kernel_rfl) (by simp) (AllReadyH.cons rfl (fun K1 hK1 => ?_) (AllReadyH.cons rfl (fun K1 hK1 => ?_) AllReadyH.nil))
      · clear x5
        go_simp
        refine hK1.out _ _ ⟨J2d.out.bel, vi, J2d.out.row⟩ (fun hH => ?_)
        clear hK1
        refine wpAnyH_ready (rs := [16]) (by kernel_rfl) (by simp) (AllReadyH.cons rfl (fun K1 hK1 => ?_) AllReadyH.nil)
        refine ET.stepBs1 EH (by rfl) _ (by rfl) A AL.out (by rfl) ?_
        refine hK1.out _ _ ⟨J3.out.bel, vi, J3.out.row⟩ (fun hH => ?_)
        clear hK1
        change wpAnyH _ _ _ _ _ _ _ (Act.put _ (some 53) _) _
        simp only [Act.put, List.setIfInBounds_toArray, List.set_cons_zero, List.set_cons_succ]
        refine wpAnyH_ready (rs := [17]) (by kernel_rfl) (by simp) (AllReadyH.cons rfl (fun K1 hK1 => ?_) AllReadyH.nil)
        refine ET.step EH (by rfl) _ _ (by rfl) vi is (by rfl) J3.out.ids ⟨W2.drew.heap.size, 0, none⟩ A AL.out (by rfl) N3.out SZ2.out ?_
        intro v5 w5 o5 on5
        obtain ⟨ao5, c5, rfl⟩ := o5.form
        have f4 := World.rowIs.frozen (J3.out.rowI on5) 4
        have y4 := World.rowIs.cell (J3.out.rowI on5) (i := 4) (by decide)
        have J5 := hide (J3.out.idm o5 on5)
        have S5 := hide (And.intro (J3.out.bel.trans (on5.below J3.out.bel.size J3.out.ifar)) (J3.out.rowI on5))
        clear o5 on5
        refine hK1.out _ _ ⟨S5.out.1, vi, S5.out.2⟩ (fun hH => ?_)
        clear hK1
        change wpAnyH _ _ _ _ _ _ _ (Act.put _ (some 54) _) _
        simp only [Act.put, List.setIfInBounds_toArray, List.set_cons_zero, List.set_cons_succ]
        refine wpAnyH_take (i := 18) (v := (.pointer (some ⟨gt, 0, none⟩))) rfl (by kernel_rfl) (by kernel_rfl) (by kernel_rfl) (fun _ _ _ h => h) (.inl ⟨by rfl, fun W _ => by go_simp⟩) hH ?_
        change wpAnyH _ _ _ _ _ _ _ (Act.put _ (some 55) _) _
        simp only [Act.put, List.setIfInBounds_toArray, List.set_cons_zero, List.set_cons_succ]
        refine wpAnyH_take (i := 19) (v := (.pointer (some ⟨gt, 2, none⟩))) rfl (by kernel_rfl) (by kernel_rfl) (by kernel_rfl) (fun _ _ _ h => h) (.inl ⟨by rfl, fun W _ => by go_simp⟩) hH ?_
        change wpAnyH _ _ _ _ _ _ _ (Act.put _ (some 56) _) _
        simp only [Act.put, List.setIfInBounds_toArray, List.set_cons_zero, List.set_cons_succ]
        refine wpAnyH_take (i := 20) (v := (.pointer (some ⟨gt, 4, none⟩))) rfl (by kernel_rfl) (by kernel_rfl) (by kernel_rfl) (fun _ _ _ h => h) (.inl ⟨by rfl, fun W _ => by go_simp⟩) hH ?_
        change wpAnyH _ _ _ _ _ _ _ (Act.put _ (some 57) _) _
        simp only [Act.put, List.setIfInBounds_toArray, List.set_cons_zero, List.set_cons_succ]
        refine wpAnyH_ready (rs := [21]) (by kernel_rfl) (by simp) (AllReadyH.cons rfl (fun K1 hK1 => ?_) AllReadyH.nil)
        go_simp
        rw [show (is ++ [A]).length = is.length + 1 by simp] at J5
        refine hK1.out _ _ ⟨J5.out.bel, _, J5.out.row⟩ (fun hH => ?_)
        clear hK1
        refine wpAnyH_done (by kernel_rfl) ?_ _
        go_wp2
        refine bodyPost_ret (results_none (by kernel_rfl) _ _ _) rfl ?_
        exact ⟨⟨_, rfl⟩, _, _, by rw [TL.out]; exact J5.out⟩
      · clear x4
        refine ET.stepBs1 EH (by rfl) _ (by rfl) A AL.out (by rfl) ?_
        refine hK1.out _ _ ⟨J3.out.bel, vi, J3.out.row⟩ (fun hH => ?_)
        clear hK1
        change wpAnyH _ _ _ _ _ _ _ (Act.put _ (some 53) _) _
        simp only [Act.put, List.setIfInBounds_toArray, List.set_cons_zero, List.set_cons_succ]
        generalize W2.drew.alloc (.cells (hc A) 39) = W3 at *
        refine wpAnyH_ready (rs := [5]) (by kernel_rfl) (by simp) (AllReadyH.cons rfl (fun K1 hK1 => ?_) AllReadyH.nil)
        go_simp
        refine hK1.out _ _ ⟨J3.out.bel, vi, J3.out.row⟩ (fun hH => ?_)
        clear hK1
        refine wpAnyH_ready (rs := [17]) (by kernel_rfl) (by simp) (AllReadyH.cons rfl (fun K1 hK1 => ?_) AllReadyH.nil)
        refine ET.step EH (by rfl) _ _ (by rfl) vi is (by rfl) J3.out.ids ⟨W2.drew.heap.size, 0, none⟩ A AL.out (by rfl) N3.out SZ2.out ?_
        intro v5 w5 o5 on5
        obtain ⟨ao5, c5, rfl⟩ := o5.form
        have f4 := World.rowIs.frozen (J3.out.rowI on5) 4
        have y4 := World.rowIs.cell (J3.out.rowI on5) (i := 4) (by decide)
        have J5 := hide (J3.out.idm o5 on5)
        have S5 := hide (And.intro (J3.out.bel.trans (on5.below J3.out.bel.size J3.out.ifar)) (J3.out.rowI on5))
        clear o5 on5
        refine hK1.out _ _ ⟨S5.out.1, vi, S5.out.2⟩ (fun hH => ?_)
        clear hK1
        change wpAnyH _ _ _ _ _ _ _ (Act.put _ (some 54) _) _
        simp only [Act.put, List.setIfInBounds_toArray, List.set_cons_zero, List.set_cons_succ]
        refine wpAnyH_take (i := 18) (v := (.pointer (some ⟨gt, 0, none⟩))) rfl (by kernel_rfl) (by kernel_rfl) (by kernel_rfl) (fun _ _ _ h => h) (.inl ⟨by rfl, fun W _ => by go_simp⟩) hH ?_
        change wpAnyH _ _ _ _ _ _ _ (Act.put _ (some 55) _) _
        simp only [Act.put, List.setIfInBounds_toArray, List.set_cons_zero, List.set_cons_succ]
        refine wpAnyH_take (i := 19) (v := (.pointer (some ⟨gt, 2, none⟩))) rfl (by kernel_rfl) (by kernel_rfl) (by kernel_rfl) (fun _ _ _ h => h) (.inl ⟨by rfl, fun W _ => by go_simp⟩) hH ?_
        change wpAnyH _ _ _ _ _ _ _ (Act.put _ (some 56) _) _
        simp only [Act.put, List.setIfInBounds_toArray, List.set_cons_zero, List.set_cons_succ]
        refine wpAnyH_take (i := 20) (v := (.pointer (some ⟨gt, 4, none⟩))) rfl (by kernel_rfl) (by kernel_rfl) (by kernel_rfl) (fun _ _ _ h => h) (.inl ⟨by rfl, fun W _ => by go_simp⟩) hH ?_
        change wpAnyH _ _ _ _ _ _ _ (Act.put _ (some 57) _) _
        simp only [Act.put, List.setIfInBounds_toArray, List.set_cons_zero, List.set_cons_succ]
        refine wpAnyH_ready (rs := [21]) (by kernel_rfl) (by simp) (AllReadyH.cons rfl (fun K1 hK1 => ?_) AllReadyH.nil)
        go_simp
        rw [show (is ++ [A]).length = is.length + 1 by simp] at J5
        refine hK1.out _ _ ⟨J5.out.bel, _, J5.out.row⟩ (fun hH => ?_)
        clear hK1
        refine wpAnyH_done (by kernel_rfl) ?_ _
        go_wp2
        refine bodyPost_ret (results_none (by kernel_rfl) _ _ _) rfl ?_
        exact ⟨⟨_, rfl⟩, _, _, by rw [TL.out]; exact J5.out⟩
  · obtain rfl : mm = true := by
      cases mm
      · exact absurd (.inl rfl) hleaf
      · rfl
    obtain ⟨k, hkk⟩ : ∃ k, K = k + 1 := ⟨K - 1, by omega⟩
    have hk0 : ((K : Int) == 0) = false := by rw [beq_eq_false_iff_ne]; omega
    have TI : Hid (tl ms L K p = (true :: ((tl ms L k (2 * p)).1 ++ if 2 * p + 1 < (lv L k).length then (tl ms L k (2 * p + 1)).1 else []), (tl ms L k (2 * p)).2 ++ if 2 * p + 1 < (lv L k).length then (tl ms L k (2 * p + 1)).2 else [])) := by
      have h := HMM.out
      rw [hkk] at h ⊢
      exact tl_inner ms L k p h
    obtain ⟨hk, hp, hb1, hb2, _⟩ := HNN.out
    have hl2 : (lv L K).length = ((lv L k).length + 1) / 2 := by rw [hkk, lv, nxt_len]
    have I1 := hide (HIH.out k hkk (2 * p) (by omega))
    have I2 := hide fun h => HIH.out k hkk (2 * p + 1) h
    have e2 : 2 ^ (K + 1) = 2 * 2 ^ (k + 1) := by rw [hkk, Nat.pow_succ']
    have hpw : 0 < 2 ^ (k + 1) := Nat.pos_of_ne_zero (by simp)
    have tl1 := tl_len ms L k (2 * p)
    have B1 : Hid ((bs ++ [true]).length + 2 ^ (k + 1) ≤ 1000000) := by
      show _ ≤ _
      rw [List.length_append, List.length_singleton]
      omega
    have B2 := hide (show is.length + 2 ^ (k + 1) ≤ 1000000 by omega)
    have B3 : Hid ((bs ++ [true] ++ (tl ms L k (2 * p)).1).length + 2 ^ (k + 1) ≤ 1000000) := by
      show _ ≤ _
      rw [List.length_append, List.length_append, List.length_singleton]
      omega
    have B4 : Hid ((is ++ (tl ms L k (2 * p)).2).length + 2 ^ (k + 1) ≤ 1000000) := by
      show _ ≤ _
      rw [List.length_append]
      omega
    obtain ⟨hN, hp3⟩ := HP3.out
    have w1 : IntKind.i64.wrap (2 * (p : Int)) = ((2 * p : Nat) : Int) := by rw [wrapI _ (by omega) (by omega)]; omega
    have w2 : IntKind.i64.wrap ((K : Int) - 1) = (k : Int) := by rw [wrapI _ (by omega) (by omega)]; omega
    have w3 : IntKind.i64.wrap (((2 * p : Nat) : Int) + 1) = ((2 * p + 1 : Nat) : Int) := by rw [wrapI _ (by omega) (by omega)]; omega
    obtain ⟨x, hg0, hx, hxl⟩ := HH0.out k (by omega)
    obtain ⟨ax, cx, rfl⟩ := hxl.form
    have i6 : (0 : Int) ≤ (k : Int) := by omega
    have i7 : (k : Int) < (N : Int) := by omega
    have HX := hide (And.intro hg0 hx)
    clear hleaf hkk hk hp hb1 hb2 hl2 e2 hpw tl1 hN hp3 hx hxl hg0 HIH
    generalize hqq : 2 * p = q at *
    generalize hq1 : q + 1 = q1 at *
    clear hqq
    go_upto_region 6 with (first | (go_at_call 21; refine (I1.out _ _ _ _ _ J2.out B1.out B2.out).mono ?_; rintro e w4 ⟨⟨r, rfl⟩, vb3, vi3, j3⟩; have J3 := hide j3; clear j3))
    have x0 := World.rowIs.cell J3.out.row (i := 0) (by decide)
    rw [show tc (.slice (some ⟨g0, 0, none⟩) N c0) (.slice (some ⟨g1, 0, none⟩) N c1) n vb3 vi3 0 = .slice (some ⟨g0, 0, none⟩) N c0 from rfl] at x0
    have x1 := (J3.out.bel.cell (p := ⟨g0, k, none⟩) HX.out.1).trans HX.out.2
    by_cases hsec : q1 < (lv L k).length
    · have h5 : (q1 : Int) < ((lv L k).length : Int) := by omega
      have I3 := hide (I2.out hsec)
      rw [if_pos hsec, if_pos hsec] at TI
      clear hsec I2
      go_wp2_with (first | (go_at_call 21; refine (I3.out _ _ _ _ _ J3.out B3.out B4.out).mono ?_; rintro e w5 ⟨⟨r2, rfl⟩, vb4, vi4, j4⟩; have J4 := hide j4; clear j4))
      refine bodyPost_end (results_none (by kernel_rfl) _ _ _) rfl ?_
      exact ⟨⟨_, rfl⟩, _, _, by rw [TI.out]; simpa using J4.out⟩
    · have h5 : ¬ (q1 : Int) < ((lv L k).length : Int) := by omega
      rw [if_neg hsec, if_neg hsec] at TI
      clear hsec I2
      go_wp2_with fail
      refine bodyPost_end (results_none (by kernel_rfl) _ _ _) rfl ?_
      exact ⟨⟨_, rfl⟩, _, _, by rw [TI.out]; simpa using J3.out⟩
end
theorem tell_any {B : World} {v0 v1 : Value} {ms : List Bool} {L : List (List UInt8)} {N gt n : Nat} (T : Tb B v0 v1 ms L N) (hms : ms.length = L.length) (hn : L.length ≤ 300) (hN : N ≤ 12) : ∀ k, k < N → ∀ p, p < (lv L k).length → Told B v0 v1 ms L gt n k p
  | 0, hk, p, hp => tell_step T hms 0 p hk hN hp (by have := lv_le L 0; omega) (fun k e => by omega)
  | k + 1, hk, p, hp => tell_step T hms (k + 1) p hk hN hp (by have := lv_le L (k + 1); omega) (fun k' e q hq => by
      obtain rfl : k = k' := by omega
      exact tell_any T hms hn hN k (by omega) q hq)
end Go.Proofs.YthlaibkdcebekaaDoor
namespace Go.Proofs.YthlaibkdcebekaaDoor
open Go.RowKit
open Go.Deep
theorem Tb.of {w1 w2 B : World} {v0 v1 : Value} {vs vs1 : List Value} {ms : List Bool} {L : List (List UInt8)} (l : Ls w1 B v0 vs L) (m : Rw 23 (PM ms) w2 B v1 vs1) (N : Nat) (h0 : vs.length = N) (h1 : vs1.length = N) (hN : 0 < N) : Tb B v0 v1 ms L N := by
  obtain ⟨g0, c0, rfl, _⟩ := l.form (by omega)
  obtain ⟨g1, c1, rfl, _⟩ := m.form (by omega)
  refine ⟨⟨g0, c0, by rw [h0], fun i hi => ?_⟩, ⟨g1, c1, by rw [h1], fun i hi => ?_⟩⟩
  · have hx : vs[i]? = some (vs[i]'(by omega)) := List.getElem?_eq_getElem (by omega)
    exact ⟨_, (l.row.lt g0 rfl).2, l.cell rfl hx, (l.own i _ hx).read⟩
  · have hx : vs1[i]? = some (vs1[i]'(by omega)) := List.getElem?_eq_getElem (by omega)
    exact ⟨_, (m.row.lt g1 rfl).2, m.cell rfl hx, (m.el i _ hx).1⟩
section
set_option maxRecDepth 10000
set_option maxHeartbeats 4000000
theorem part_yes (v vm : Value) (L : List (List UInt8)) (ms : List Bool) (w : World) (hL : LH w v L) (hM : LB w vm ms) (hms : ms.length = L.length) (h0 : 0 < L.length) (hn : L.length ≤ 300) (hK : Kg w) : Calls Tryd.prog 6 #[v, vm] w fun e w' => ∃ vb vi, e = .returned (.tuple #[.agg #[.int .i64 (L.length : Int), vb, vi], .int .i64 0]) ∧ OB w' vb (tl ms L (dp L.length) 0).1 ∧ OH 39 w' vi (tl ms L (dp L.length) 0).2 ∧ Below w.heap.size w w' := by
  obtain ⟨ao, cap, rfl⟩ := hL.form
  obtain ⟨am, capm, rfl, _⟩ := hM.form
  have hne : ((L.length : Int) == 0) = false := by rw [beq_eq_false_iff_ne]; omega
  have h65 : ¬ (65536 : Int) < (L.length : Int) := by omega
  have HL := hide hL
  have HM := hide hM
  have HN := hide (And.intro hms (And.intro h0 hn))
  have KW : Hid (∀ W, Below w.heap.size w W → Kg W) := fun W h => hK.next h
  have HLv := hide fun W hW hKW => levels_any (.slice ao L.length cap) L W hW h0 (by omega) hKW
  have HMv := hide fun W hW => meantLevels_any (.slice am ms.length capm) ms W hW (by omega) (by omega)
  rw [hms] at HM HMv ⊢
  clear hL hM hK h0 hn hms
  go_enter Tryd.func6, Tryd.ntmps6
  go_upto_region 5 with fail
  have R1 := hide (heap_alloc_last w (.cells #[.int .i64 0, .slice none 0 0, .slice none 0 0] 25))
  have B1 : Hid (Below w.heap.size w (w.alloc (.cells #[.int .i64 0, .slice none 0 0, .slice none 0 0] 25))) := (Below.refl _ _).alloc (Nat.le_refl _) _
  have S1 := hide (show w.heap.size < (w.alloc (.cells #[.int .i64 0, .slice none 0 0, .slice none 0 0] 25)).heap.size by simp)
  generalize w.alloc (.cells #[.int .i64 0, .slice none 0 0, .slice none 0 0] 25) = W1 at *
  go_upto_region 6 with (first | (go_at_call 19; refine (HLv.out _ (HL.out.below B1.out) (KW.out _ B1.out)).mono ?_; rintro e w2 ⟨v0, vs, rfl, l2, hvs⟩; have L2 := hide l2; have HVS := hide hvs; clear l2 hvs) | (go_at_call 20; refine (HMv.out _ ((HM.out.below B1.out).below L2.out.bel)).mono ?_; rintro e w3 ⟨v1, rfl, vs1, m3, hvs1⟩; have M3 := hide m3; have HVS1 := hide hvs1; have L3 := hide (L2.out.next m3.bel); clear m3 hvs1; obtain ⟨g0, c0, rfl, _⟩ := L3.out.form (by rw [HVS.out]; omega); obtain ⟨g1, c1, rfl, _⟩ := M3.out.form (by rw [HVS1.out]; omega)))
  obtain ⟨hms, h0, hn⟩ := HN.out
  have hd9 : dp L.length ≤ 9 := by
    unfold dp
    split
    · omega
    · exact bl_le_of _ 9 (by omega)
  have hp2 : 2 ^ (dp L.length + 1) ≤ 2 ^ 10 := Nat.pow_le_pow_right (by decide) (by omega)
  have hvs := HVS.out
  have hvs1 := HVS1.out
  have T := Tb.of L3.out M3.out vs.length rfl (by rw [hvs, hvs1]) (by omega)
  rw [show vs1.length = vs.length by rw [hvs, hvs1]] at T ⊢
  have J4 : Hid (Ts w3 (w3.alloc (.cells #[.slice (some ⟨g0, 0, none⟩) vs.length c0, .slice (some ⟨g1, 0, none⟩) vs.length c1, .int .i64 (L.length : Int), .slice none 0 0, .slice none 0 0] 59)) w3.heap.size (.slice (some ⟨g0, 0, none⟩) vs.length c0) (.slice (some ⟨g1, 0, none⟩) vs.length c1) L.length (.slice none 0 0) (.slice none 0 0) [] []) :=
    ⟨(Below.refl _ _).alloc (Nat.le_refl _) _, Nat.le_refl _, row_of (n := 5) rfl (heap_alloc_last _ _) (fun i hi => by
      have : i = 0 ∨ i = 1 ∨ i = 2 ∨ i = 3 ∨ i = 4 := by omega
      rcases this with rfl | rfl | rfl | rfl | rfl <;> rfl), OB.nil _, (fun g hg => by cases hg), OH.nil _ _, (fun g hg => by cases hg)⟩
  have HT := hide (tell_any (gt := w3.heap.size) (n := L.length) T hms hn (by omega) (dp L.length) (by omega) 0 (lv_pos L h0 _))
  have z1 := hide (show ([] : List Bool).length + 2 ^ (dp L.length + 1) ≤ 1000000 by simp; omega)
  have z2 := hide (show ([] : List (List UInt8)).length + 2 ^ (dp L.length + 1) ≤ 1000000 by simp; omega)
  have e1 : IntKind.i64.wrap ((vs.length : Int) - 1) = ((dp L.length : Nat) : Int) := by rw [wrapI _ (by omega) (by omega)]; omega
  have hs2 := L2.out.bel.size
  have hs3 := M3.out.bel.size
  have hs1 := S1.out
  have R3 : Hid (w3.heap[w.heap.size]? = some (.cells #[.int .i64 0, .slice none 0 0, .slice none 0 0] 25 (0, 0))) := by
    show _ = _
    rw [M3.out.bel.block _ (by omega), L2.out.bel.block _ (by omega)]
    exact R1.out
  have B3 := hide (below_next (below_next B1.out L2.out.bel) M3.out.bel)
  have LT := hide (show w.heap.size < w3.heap.size by omega)
  clear hms h0 hn hd9 hp2 hvs hvs1 T hs1 hs2 hs3 L2 L3 M3 R1 S1 B1 HLv HMv KW HL HM
  generalize w3.alloc (.cells #[.slice (some ⟨g0, 0, none⟩) vs.length c0, .slice (some ⟨g1, 0, none⟩) vs.length c1, .int .i64 (L.length : Int), .slice none 0 0, .slice none 0 0] 59) = W4 at *
  have x0 := World.rowIs.cell J4.out.row (i := 0) (by decide)
  rw [show tc (.slice (some ⟨g0, 0, none⟩) vs.length c0) (.slice (some ⟨g1, 0, none⟩) vs.length c1) L.length (.slice none 0 0) (.slice none 0 0) 0 = .slice (some ⟨g0, 0, none⟩) vs.length c0 from rfl] at x0
  generalize hgt : w3.heap.size = gt at *
  go_upto_region 7 with (first | (go_at_call 21; refine (HT.out _ _ _ _ _ J4.out z1.out z2.out).mono ?_; rintro e w5 ⟨⟨r, rfl⟩, vb, vi, j5⟩; have J5 := hide j5; clear j5))
  rw [List.nil_append, List.nil_append] at J5
  have c2 := World.rowIs.cell J5.out.row (i := 2) (by decide)
  have c3 := World.rowIs.cell J5.out.row (i := 3) (by decide)
  have c4 := World.rowIs.cell J5.out.row (i := 4) (by decide)
  rw [show tc (.slice (some ⟨g0, 0, none⟩) vs.length c0) (.slice (some ⟨g1, 0, none⟩) vs.length c1) L.length vb vi 2 = .int .i64 (L.length : Int) from rfl] at c2
  rw [show tc (.slice (some ⟨g0, 0, none⟩) vs.length c0) (.slice (some ⟨g1, 0, none⟩) vs.length c1) L.length vb vi 3 = vb from rfl] at c3
  rw [show tc (.slice (some ⟨g0, 0, none⟩) vs.length c0) (.slice (some ⟨g1, 0, none⟩) vs.length c1) L.length vb vi 4 = vi from rfl] at c4
  have R5 : w5.heap[w.heap.size]? = some (.cells #[.int .i64 0, .slice none 0 0, .slice none 0 0] 25 (0, 0)) := (J5.out.bel.block _ (by rw [hgt]; exact LT.out)).trans R3.out
  have hr : w5.rowIs w.heap.size 25 3 (fun i => if i = 0 then .int .i64 0 else .slice none 0 0) := row_of (n := 3) rfl R5 (fun i hi => by
    have : i = 0 ∨ i = 1 ∨ i = 2 := by omega
    rcases this with rfl | rfl | rfl <;> rfl)
  have d0 := World.rowIs.cell hr (i := 0) (by decide)
  have d1 := World.rowIs.cell hr (i := 1) (by decide)
  have d2 := World.rowIs.cell hr (i := 2) (by decide)
  have f0 := World.rowIs.frozen hr 0
  have f1 := World.rowIs.frozen hr 1
  have f2 := World.rowIs.frozen hr 2
  obtain ⟨ab, cb, rfl⟩ := J5.out.bits.form
  obtain ⟨ai, ci, rfl⟩ := J5.out.ids.form
  have HR := hide hr
  have HR5 := hide R5
  clear hr R5 x0
  go_wp2
  generalize hlb : (tl ms L (dp L.length) 0).1.length = lb at *
  generalize hli : (tl ms L (dp L.length) 0).2.length = li at *
  have Q0 := World.rowIs.set HR.out 0 (.int .i64 (L.length : Int))
  have Q1 := World.rowIs.set Q0 1 (.slice ab lb cb)
  have Q2 := World.rowIs.set Q1 2 (.slice ai li ci)
  have k0 := World.rowIs.cell Q2 (i := 0) (by decide)
  have k1 := World.rowIs.cell Q2 (i := 1) (by decide)
  have k2 := World.rowIs.cell Q2 (i := 2) (by decide)
  simp at k0 k1 k2
  have BF : Hid (OB (((w5.setCell ⟨w.heap.size, 0, none⟩ (.int .i64 (L.length : Int))).setCell ⟨w.heap.size, 1, none⟩ (.slice ab lb cb)).setCell ⟨w.heap.size, 2, none⟩ (.slice ai li ci)) (.slice ab lb cb) (tl ms L (dp L.length) 0).1 ∧ OH 39 (((w5.setCell ⟨w.heap.size, 0, none⟩ (.int .i64 (L.length : Int))).setCell ⟨w.heap.size, 1, none⟩ (.slice ab lb cb)).setCell ⟨w.heap.size, 2, none⟩ (.slice ai li ci)) (.slice ai li ci) (tl ms L (dp L.length) 0).2 ∧ Below w.heap.size w (((w5.setCell ⟨w.heap.size, 0, none⟩ (.int .i64 (L.length : Int))).setCell ⟨w.heap.size, 1, none⟩ (.slice ab lb cb)).setCell ⟨w.heap.size, 2, none⟩ (.slice ai li ci))) := by
    have hb : ∀ g, g ≠ w.heap.size → (((w5.setCell ⟨w.heap.size, 0, none⟩ (.int .i64 (L.length : Int))).setCell ⟨w.heap.size, 1, none⟩ (.slice ab lb cb)).setCell ⟨w.heap.size, 2, none⟩ (.slice ai li ci)).heap[g]? = w5.heap[g]? := fun g h => by
      rw [Below.heap_setCell _ _ _ _ h, Below.heap_setCell _ _ _ _ h, Below.heap_setCell _ _ _ _ h]
    have hlt := LT.out
    refine ⟨J5.out.bits.of_block fun g hg => hb g ?_, J5.out.ids.of_block fun g hg => hb g ?_, ?_⟩
    · have := J5.out.bfar g hg
      omega
    · have := J5.out.ifar g hg
      omega
    · have b5 := below_next B3.out (show Below w3.heap.size w3 w5 from J5.out.bel)
      exact ((b5.setCell (Nat.le_refl _) _).setCell (Nat.le_refl _) _).setCell (Nat.le_refl _) _
  generalize (((w5.setCell ⟨w.heap.size, 0, none⟩ (.int .i64 (L.length : Int))).setCell ⟨w.heap.size, 1, none⟩ (.slice ab lb cb)).setCell ⟨w.heap.size, 2, none⟩ (.slice ai li ci)) = W6 at *
  refine bodyPost_ret (v := .tuple #[.agg #[.int .i64 (L.length : Int), .slice ab lb cb, .slice ai li ci], .int .i64 0]) ?_ rfl ⟨_, _, rfl, BF.out⟩
  unfold results
  rw [Tryd.results6]
  clear BF J5 HT J4 R3 B3 HN
  go_simp
end
end Go.Proofs.YthlaibkdcebekaaDoor
