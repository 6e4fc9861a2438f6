/- A tree: a node that became whole is weighed; a node on which nothing stands: kids, spread, ids: their contracts. A tree: the places and the ids of a node on which nothing stands: spread, ids: their contracts. -/
import Derived.Test.YtcoojkpimbddlaaGreatDoorP0
import Derived.Test.YtcoojkpimbddlaaGreatDoorX38
import Derived.Test.YtcoojkpimbddlaaGreatDoorX28
namespace Go.Proofs.YtcoojkpimbddlaaGreatDoor
open Go.RowKit
open Go.Deep
open Go.Maps
set_option linter.unusedVariables false
set_option linter.unusedSimpArgs false
section
set_option maxRecDepth 10000
set_option maxHeartbeats 4000000
theorem weigh_both {B w : World} {gt gm n : Nat} {D : DataW Unit} {ve : Value} {L : List Tno} {tu be p : Nat} (h : Tm4 B w gt gm n D ve L tu be p) (hm : L.length ≤ 1000000) (hp : p < L.length) (hb : be < L.length) (hw : L[p].wh = true) (hbad : L[p].bad = false) (hxM : L[p].wk < M) (hyM : L[be].wk < M) (hlt : L[be].wk < L[p].wk) : Calls Tryz.prog 70 #[.pointer (some ⟨gt, 0, none⟩), .int .i64 (p : Int)] w fun e w' => e = .returned (.tuple #[]) ∧ Tm4 B w' gt gm n D ve L tu p p ∧ Frt (S4 gt gm ve) w w' := by
  obtain ⟨ao, cap, rfl⟩ := h.own.form
  obtain ⟨ge, oe, rfl⟩ := h.own.read.base (by omega)
  have X0 := hide h
  have HB : Hid (∀ W, Tm4 B W gt gm n D (.slice (some ⟨ge, oe, none⟩) L.length cap) L tu be p → Calls Tryz.prog 137 #[.pointer (some ⟨ge, oe + p * 114, none⟩)] W fun e w' => e = .returned (.bool true) ∧ w' = W) := fun W q => mayBe_yes ge (oe + p * 114) L[p] W (q.own.read.range p hp) hw hbad
  have HT : Hid (∀ W, Tm4 B W gt gm n D (.slice (some ⟨ge, oe, none⟩) L.length cap) L tu be p → Calls Tryz.prog 138 #[.pointer (some ⟨ge, oe + p * 114, none⟩), .pointer (some ⟨ge, oe + be * 114, none⟩)] W fun e w' => e = .returned (.bool true) ∧ Below W.heap.size W w') := fun W q => better_more ge (oe + p * 114) ge (oe + be * 114) L[p] L[be] W (q.own.read.range p hp) (q.own.read.range be hb) hxM hyM hlt
  have HL : Hid (∀ W, Tm4 B W gt gm n D (.slice (some ⟨ge, oe, none⟩) L.length cap) L tu p p → Calls Tryz.prog 139 #[.pointer (some ⟨ge, oe + p * 114, none⟩), .pointer (some ⟨ge, oe + p * 114, none⟩)] W fun e w' => e = .returned (.bool false) ∧ Below W.heap.size W w') := fun W q => leads_self ge (oe + p * 114) L[p] W (q.own.read.range p hp) hxM
  have LB : Hid (∀ W, Tm4 B W gt gm n D (.slice (some ⟨ge, oe, none⟩) L.length cap) L tu p p → W.cell? ⟨ge, oe + p * 114 + 108, none⟩ = some (.bool false)) := fun W q => by
    have := L[p].cbad (q.own.read.range p hp)
    rw [hbad] at this
    exact this
  have x1 : (p : Int) < (L.length : Int) := by omega
  have x2 : (0 : Int) ≤ (p : Int) := by omega
  have x3 : (be : Int) < (L.length : Int) := by omega
  have x4 : (0 : Int) ≤ (be : Int) := by omega
  have c1 := h.cells.2.1
  clear hm hp hb hw hbad hxM hyM hlt h
  go_enter Tryz.func70, Tryz.ntmps70
  go_upto_region 1 with fail
  clear c1
  have X1 := hide (X0.out.next (Below.refl w.heap.size w).drew)
  have DV1 := hide ((Below.refl w.heap.size w).drew)
  refine wp_region_held_drew (S := fun W => Tm4 B W gt gm n D (.slice (some ⟨ge, oe, none⟩) L.length cap) L tu be p) (by kernel_rfl) X1.out (fun hH => ?_)
  generalize hWd : w.drew = V1 at *
  clear hWd
  refine wt (i := 0) (v := (.pointer (some ⟨ge, oe + p * 114, none⟩))) rfl (yl_move (by rfl) _ (by rfl) _ (by rfl)) hH ?_
  change wpAnyH _ _ _ _ _ _ _ (Act.put _ (some 11) _) _
  simp only [Act.put, s0, s1, s2]
  refine wpAnyH_ready (rs := [1]) (by kernel_rfl) (by simp) (AllReadyH.cons rfl (fun K1 hK1 => ?_) AllReadyH.nil)
  go_simp
  refine (HB.out V1 X1.out).mono ?_
  rintro r V2 ⟨rfl, hv⟩
  subst V2
  refine hK1.out _ _ X1.out (fun hH => ?_)
  clear hK1
  refine wt (i := 2) (v := (.bool true)) rfl (yl_move (by rfl) _ (by rfl) _ (by rfl)) hH ?_
  change wpAnyH _ _ _ _ _ _ _ (Act.put _ (some 13) _) _
  simp only [Act.put, s0, s1, s2]
  refine wt (i := 3) (v := (.pointer (some ⟨ge, oe + p * 114, none⟩))) rfl (yl_move (by rfl) _ (by rfl) _ (by rfl)) hH ?_
  change wpAnyH _ _ _ _ _ _ _ (Act.put _ (some 14) _) _
  simp only [Act.put, s0, s1, s2]
  refine wt (i := 4) (v := (.pointer (some ⟨gt, 0, none⟩))) rfl (yl_move (by rfl) _ (by rfl) _ (by rfl)) hH ?_
  change wpAnyH _ _ _ _ _ _ _ (Act.put _ (some 15) _) _
  simp only [Act.put, s0, s1, s2]
  refine wt (i := 5) (v := (.pointer (some ⟨gt, 0, none⟩))) rfl (.inl ⟨by rfl, fun W _ => by go_simp⟩) hH ?_
  change wpAnyH _ _ _ _ _ _ _ (Act.put _ (some 16) _) _
  simp only [Act.put, s0, s1, s2]
  refine wt (i := 6) (v := (.pointer (some ⟨gt, 1, none⟩))) rfl (.inl ⟨by rfl, fun W _ => by go_simp⟩) hH ?_
  change wpAnyH _ _ _ _ _ _ _ (Act.put _ (some 17) _) _
  simp only [Act.put, s0, s1, s2]
  refine wt (i := 7) (v := (.slice (some ⟨ge, oe, none⟩) L.length cap)) rfl (.inl ⟨by rfl, fun W hS => by have c4 := hS.cells.2.1; go_simp⟩) hH ?_
  change wpAnyH _ _ _ _ _ _ _ (Act.put _ (some 18) _) _
  simp only [Act.put, s0, s1, s2]
  refine wt (i := 8) (v := (.pointer (some ⟨gt, 0, none⟩))) rfl (yl_move (by rfl) _ (by rfl) _ (by rfl)) hH ?_
  change wpAnyH _ _ _ _ _ _ _ (Act.put _ (some 19) _) _
  simp only [Act.put, s0, s1, s2]
  refine wt (i := 9) (v := (.pointer (some ⟨gt, 0, none⟩))) rfl (.inl ⟨by rfl, fun W _ => by go_simp⟩) hH ?_
  change wpAnyH _ _ _ _ _ _ _ (Act.put _ (some 20) _) _
  simp only [Act.put, s0, s1, s2]
  refine wt (i := 10) (v := (.pointer (some ⟨gt, 3, none⟩))) rfl (.inl ⟨by rfl, fun W _ => by go_simp⟩) hH ?_
  change wpAnyH _ _ _ _ _ _ _ (Act.put _ (some 21) _) _
  simp only [Act.put, s0, s1, s2]
  refine wt (i := 11) (v := (.int .i64 (be : Int))) rfl (.inl ⟨by rfl, fun W hS => by have c4 := hS.cells.2.2.2.1; go_simp⟩) hH ?_
  change wpAnyH _ _ _ _ _ _ _ (Act.put _ (some 22) _) _
  simp only [Act.put, s0, s1, s2]
  refine wt (i := 12) (v := (.pointer (some ⟨ge, oe + be * 114, none⟩))) rfl (.inl ⟨by rfl, fun W _ => by go_simp⟩) hH ?_
  change wpAnyH _ _ _ _ _ _ _ (Act.put _ (some 23) _) _
  simp only [Act.put, s0, s1, s2]
  refine wpAnyH_ready (rs := [13]) (by kernel_rfl) (by simp) (AllReadyH.cons rfl (fun K1 hK1 => ?_) AllReadyH.nil)
  go_simp
  refine (HT.out V1 X1.out).mono ?_
  rintro r V3 ⟨rfl, be1⟩
  have X3 := hide (X1.out.next be1)
  have DV3 := hide (below_next DV1.out be1)
  clear be1
  refine hK1.out _ _ X3.out (fun hH => ?_)
  clear hK1
  refine wt (i := 14) (v := (.bool true)) rfl (.inl ⟨by rfl, fun W _ => by go_simp⟩) hH ?_
  change wpAnyH _ _ _ _ _ _ _ (Act.put _ (some 25) _) _
  simp only [Act.put, s0, s1, s2]
  refine wpAnyH_done (by kernel_rfl) ?_ _
  clear hH
  have c4 := X3.out.cells.2.2.2.1
  have f4 := frozen_of_row V3 gt 3 _ _ X3.out.row
  go_upto_region 3 with fail
  clear c4 f4
  have Y0 := hide (X3.out.setBE p).1
  have F0 := hide ((Frt.of_below DV3.out).trans' (X3.out.setBE p).2)
  clear DV1 DV3 X1 X3 HB HT X0
  generalize V3.setCell ⟨gt, 3, none⟩ (.int .i64 (p : Int)) = W3 at *
  have Y1 := hide (Y0.out.next (Below.refl W3.heap.size W3).drew)
  have F1 := hide (F0.out.next (Below.refl W3.heap.size W3).drew)
  refine wp_region_held_drew (S := fun W => Tm4 B W gt gm n D (.slice (some ⟨ge, oe, none⟩) L.length cap) L tu p p) (by kernel_rfl) Y1.out (fun hH => ?_)
  generalize hWd : W3.drew = V4 at *
  clear hWd
  refine wt (i := 0) (v := (.pointer (some ⟨ge, oe + p * 114, none⟩))) rfl (yl_move (by rfl) _ (by rfl) _ (by rfl)) hH ?_
  change wpAnyH _ _ _ _ _ _ _ (Act.put _ (some 30) _) _
  simp only [Act.put, s0, s1, s2]
  refine wt (i := 1) (v := (.pointer (some ⟨ge, oe + p * 114, none⟩))) rfl (.inl ⟨by rfl, fun W _ => by go_simp⟩) hH ?_
  change wpAnyH _ _ _ _ _ _ _ (Act.put _ (some 31) _) _
  simp only [Act.put, s0, s1, s2]
  refine wt (i := 2) (v := (.pointer (some ⟨ge, oe + p * 114, none⟩))) rfl (.inl ⟨by rfl, fun W _ => by go_simp⟩) hH ?_
  change wpAnyH _ _ _ _ _ _ _ (Act.put _ (some 32) _) _
  simp only [Act.put, s0, s1, s2]
  refine wt (i := 3) (v := (.pointer (some ⟨ge, oe + p * 114 + 108, none⟩))) rfl (.inl ⟨by rfl, fun W _ => by go_simp⟩) hH ?_
  change wpAnyH _ _ _ _ _ _ _ (Act.put _ (some 33) _) _
  simp only [Act.put, s0, s1, s2]
  refine wt (i := 4) (v := (.bool false)) rfl (.inl ⟨by rfl, fun W hS => by have c4 := (LB.out W hS); go_simp⟩) hH ?_
  change wpAnyH _ _ _ _ _ _ _ (Act.put _ (some 34) _) _
  simp only [Act.put, s0, s1, s2]
  refine wt (i := 5) (v := (.bool true)) rfl (.inl ⟨by rfl, fun W _ => by go_simp⟩) hH ?_
  change wpAnyH _ _ _ _ _ _ _ (Act.put _ (some 35) _) _
  simp only [Act.put, s0, s1, s2]
  refine wt (i := 6) (v := (.bool true)) rfl (yl_move (by rfl) _ (by rfl) _ (by rfl)) hH ?_
  change wpAnyH _ _ _ _ _ _ _ (Act.put _ (some 36) _) _
  simp only [Act.put, s0, s1, s2]
  refine wt (i := 7) (v := (.pointer (some ⟨ge, oe + p * 114, none⟩))) rfl (yl_move (by rfl) _ (by rfl) _ (by rfl)) hH ?_
  change wpAnyH _ _ _ _ _ _ _ (Act.put _ (some 37) _) _
  simp only [Act.put, s0, s1, s2]
  refine wt (i := 8) (v := (.pointer (some ⟨gt, 0, none⟩))) rfl (yl_move (by rfl) _ (by rfl) _ (by rfl)) hH ?_
  change wpAnyH _ _ _ _ _ _ _ (Act.put _ (some 38) _) _
  simp only [Act.put, s0, s1, s2]
  refine wt (i := 9) (v := (.pointer (some ⟨gt, 0, none⟩))) rfl (.inl ⟨by rfl, fun W _ => by go_simp⟩) hH ?_
  change wpAnyH _ _ _ _ _ _ _ (Act.put _ (some 39) _) _
  simp only [Act.put, s0, s1, s2]
  refine wt (i := 10) (v := (.pointer (some ⟨gt, 1, none⟩))) rfl (.inl ⟨by rfl, fun W _ => by go_simp⟩) hH ?_
  change wpAnyH _ _ _ _ _ _ _ (Act.put _ (some 40) _) _
  simp only [Act.put, s0, s1, s2]
  refine wt (i := 11) (v := (.slice (some ⟨ge, oe, none⟩) L.length cap)) rfl (.inl ⟨by rfl, fun W hS => by have c4 := hS.cells.2.1; go_simp⟩) hH ?_
  change wpAnyH _ _ _ _ _ _ _ (Act.put _ (some 41) _) _
  simp only [Act.put, s0, s1, s2]
  refine wt (i := 12) (v := (.pointer (some ⟨gt, 0, none⟩))) rfl (yl_move (by rfl) _ (by rfl) _ (by rfl)) hH ?_
  change wpAnyH _ _ _ _ _ _ _ (Act.put _ (some 42) _) _
  simp only [Act.put, s0, s1, s2]
  refine wt (i := 13) (v := (.pointer (some ⟨gt, 0, none⟩))) rfl (.inl ⟨by rfl, fun W _ => by go_simp⟩) hH ?_
  change wpAnyH _ _ _ _ _ _ _ (Act.put _ (some 43) _) _
  simp only [Act.put, s0, s1, s2]
  refine wt (i := 14) (v := (.pointer (some ⟨gt, 4, none⟩))) rfl (.inl ⟨by rfl, fun W _ => by go_simp⟩) hH ?_
  change wpAnyH _ _ _ _ _ _ _ (Act.put _ (some 44) _) _
  simp only [Act.put, s0, s1, s2]
  refine wt (i := 15) (v := (.int .i64 (p : Int))) rfl (.inl ⟨by rfl, fun W hS => by have c4 := hS.cells.2.2.2.2; go_simp⟩) hH ?_
  change wpAnyH _ _ _ _ _ _ _ (Act.put _ (some 45) _) _
  simp only [Act.put, s0, s1, s2]
  refine wt (i := 16) (v := (.pointer (some ⟨ge, oe + p * 114, none⟩))) rfl (.inl ⟨by rfl, fun W _ => by go_simp⟩) hH ?_
  change wpAnyH _ _ _ _ _ _ _ (Act.put _ (some 46) _) _
  simp only [Act.put, s0, s1, s2]
  refine wpAnyH_ready (rs := [17]) (by kernel_rfl) (by simp) (AllReadyH.cons rfl (fun K1 hK1 => ?_) AllReadyH.nil)
  go_simp
  refine (HL.out V4 Y1.out).mono ?_
  rintro r V5 ⟨rfl, be2⟩
  have Y5 := hide (Y1.out.next be2)
  have F5 := hide (F1.out.next be2)
  clear be2
  refine hK1.out _ _ Y5.out (fun hH => ?_)
  clear hK1
  refine wt (i := 18) (v := (.bool false)) rfl (.inl ⟨by rfl, fun W _ => by go_simp⟩) hH ?_
  change wpAnyH _ _ _ _ _ _ _ (Act.put _ (some 48) _) _
  simp only [Act.put, s0, s1, s2]
  refine wpAnyH_done (by kernel_rfl) ?_ _
  clear hH
  go_wp2
  exact bodyPost_end (results_none (by kernel_rfl) _ _ _) rfl ⟨rfl, Y5.out, F5.out⟩
theorem rev_nil (w : World) : Calls Tryz.prog 201 #[.slice none 0 0] w fun e w' => e = .returned (.tuple #[]) ∧ w' = w := by
  go_enter Tryz.func201, Tryz.ntmps201
  go_wp2
  go_loopw [2, 3] (fun i j wr => i = .int .i64 0 ∧ j = .int .i64 (-1) ∧ wr = w) (fun _ _ _ => 0)
  case atStart => exact ⟨rfl, rfl, rfl⟩
  case round =>
    obtain ⟨rfl, rfl, rfl⟩ := hrel
    go_wp2
    exact bodyPost_end (results_none (by kernel_rfl) _ _ _) rfl ⟨rfl, rfl⟩
theorem kids_none {B w : World} {gt gm n : Nat} {D : DataW Unit} {ve : Value} {L : List Tno} {tu be bh : Nat} (h : Tm4 B w gt gm n D ve L tu be bh) (hm : L.length ≤ 1000000) (p : Nat) (hp : p < L.length) (hy : L[p].yo = 0) : Calls Tryz.prog 126 #[.pointer (some ⟨gt, 0, none⟩), .int .i64 (p : Int)] w fun e w' => e = .returned (.slice none 0 0) ∧ w' = w := by
  obtain ⟨ao, cap, rfl⟩ := h.own.form
  obtain ⟨ge, oe, rfl⟩ := h.own.read.base (by omega)
  have c1 := h.cells.2.1
  have c2 := L[p].cyo (h.own.read.range p hp)
  rw [hy] at c2
  have c2 : w.cell? ⟨ge, oe + p * 114 + 112, none⟩ = some (.int .i64 0) := c2
  have x1 : (p : Int) < (L.length : Int) := by omega
  have x2 : (0 : Int) ≤ (p : Int) := by omega
  clear hm hp hy h
  go_enter Tryz.func126, Tryz.ntmps126
  go_upto_region 3 with fail
  clear c1 c2
  go_loopw [5, 6] (fun s k wr => s = .slice none 0 0 ∧ k = .int .i64 0 ∧ wr = w) (fun _ _ _ => 0)
  case atStart => exact ⟨rfl, rfl, rfl⟩
  case round =>
    obtain ⟨rfl, rfl, rfl⟩ := hrel
    go_wp2_with (go_at_call 201; refine (rev_nil _).mono ?_; rintro e W2 ⟨rfl, hw⟩; subst W2)
    go_ret
    exact ⟨rfl, rfl⟩
end
theorem bs_i17 (p : Int) (W : World) : (Instr.buildSlice 37 1 #[(0, .int .i64 p)]).run Tryz.prog W = .ok (.slice (some ⟨W.heap.size, 0, none⟩) 1 1) (W.alloc (.cells #[.int .i64 p] 3)) := by kernel_rfl
section
set_option maxRecDepth 10000
set_option maxHeartbeats 4000000
theorem spread_one {B w : World} {gt gm n : Nat} {D : DataW Unit} {ve : Value} {L : List Tno} {tu be bh : Nat} (h : Tm4 B w gt gm n D ve L tu be bh) (hm : L.length ≤ 1000000) (p : Nat) (hp : p < L.length) (hy : L[p].yo = 0) (f : Value) : Calls Tryz.prog 68 #[.pointer (some ⟨gt, 0, none⟩), .int .i64 (p : Int), f] w fun e w' => ∃ g, e = .returned (.slice (some ⟨g, 0, none⟩) 1 1) ∧ w'.heap[g]? = some (.cells #[.int .i64 (p : Int)] 3 (0, 0)) ∧ Below w.heap.size w w' := by
  have b1 := (Below.refl w.heap.size w).alloc (Nat.le_refl _) (.cells #[.int .i64 (p : Int)] 3)
  have B1 := hide b1
  have R1 := hide (heap_alloc_last w (.cells #[.int .i64 (p : Int)] 3))
  have X1 := hide (h.next b1)
  have HK : Hid (∀ W, Tm4 B W gt gm n D ve L tu be bh → Calls Tryz.prog 126 #[.pointer (some ⟨gt, 0, none⟩), .int .i64 (p : Int)] W fun e w' => e = .returned (.slice none 0 0) ∧ w' = W) := fun W q => kids_none q hm p hp hy
  clear b1 h hm hp hy
  go_enter Tryz.func68, Tryz.ntmps68
  go_upto_region 2 with ((with_reducible refine at_list ?_); refine wp_bs14 rfl _ _ _ rfl #[(0, .int .i64 (p : Int))] (by simp only [List.map_toArray, List.map_cons, List.map_nil]; rfl) _ _ (bs_i17 (p : Int) _) ?_)
  have c1 : (w.alloc (.cells #[.int .i64 (p : Int)] 3)).cell? ⟨w.heap.size, 0, none⟩ = some (.int .i64 (p : Int)) := by rw [cell_of_row _ _ _ _ _ _ R1.out]; rfl
  generalize w.alloc (.cells #[.int .i64 (p : Int)] 3) = W0 at *
  go_upto_region 3 with fail
  go_loopw [7, 8] (fun t i wr => t = .slice (some ⟨w.heap.size, 0, none⟩) 1 1 ∧ wr = W0 ∧ (i = .int .i64 0 ∨ i = .int .i64 1)) (fun _ i _ => (1 - intOf i).toNat)
  case atStart => exact ⟨rfl, rfl, .inl rfl⟩
  case round =>
    obtain ⟨rfl, rfl, rfl | rfl⟩ := hrel
    · go_upto_region 6 with (go_at_call 126; refine (HK.out _ X1.out).mono ?_; rintro e W2 ⟨rfl, hw⟩; subst W2)
      go_loopw [7, 26] (fun t i w2 => t = .slice (some ⟨w.heap.size, 0, none⟩) 1 1 ∧ i = .int .i64 0 ∧ w2 = wr) (fun _ _ _ => 0)
      case atStart => exact ⟨rfl, rfl, rfl⟩
      case round =>
        obtain ⟨rfl, rfl, rfl⟩ := hrel
        go_wp2
        exact ⟨by simp, by simp [intOf]⟩
    · go_wp2
      go_ret
      exact ⟨_, rfl, R1.out, B1.out⟩
theorem ids_one {B w : World} {gt gm n : Nat} {D : DataW Unit} {ve : Value} {L : List Tno} {tu be bh : Nat} (h : Tm4 B w gt gm n D ve L tu be bh) (hm : L.length ≤ 1000000) (p : Nat) (hp : p < L.length) (g : Nat) (hg : w.heap[g]? = some (.cells #[.int .i64 (p : Int)] 3 (0, 0))) : Calls Tryz.prog 71 #[.pointer (some ⟨gt, 0, none⟩), .slice (some ⟨g, 0, none⟩) 1 1] w fun e w' => ∃ v, e = .returned v ∧ Below w.heap.size w w' := by
  obtain ⟨ao, cap, rfl⟩ := h.own.form
  obtain ⟨ge, oe, rfl⟩ := h.own.read.base (by omega)
  have b1 := (Below.refl w.heap.size w).alloc (Nat.le_refl _) (.cells (hc zeros) 46)
  have B1 := hide b1
  have R1 := hide (heap_alloc_last w (.cells (hc zeros) 46))
  have X1 := hide (h.next b1)
  have c1 : (w.alloc (.cells (hc zeros) 46)).cell? ⟨g, 0, none⟩ = some (.int .i64 (p : Int)) := by rw [cell_of_row _ _ _ _ _ _ ((b1.block _ (lt_heap hg)).trans hg)]; rfl
  have c2 := X1.out.cells.2.1
  have RI := hide (L[p].rid (X1.out.own.read.range p hp))
  have HI := hide L[p].hi
  have IZ := hide (And.intro (show (hc L[p].id).size = 32 by rw [hc_size, L[p].hi]) (hc_one L[p].id))
  have ZZ := hide (And.intro (show (hc zeros).size = 32 by rw [hc_size, zeros_len]) (hc_one zeros))
  have x1 : (p : Int) < (L.length : Int) := by omega
  have x2 : (0 : Int) ≤ (p : Int) := by omega
  clear b1 h hm hg
  generalize L[p].id = I at *
  go_enter Tryz.func71, Tryz.ntmps71
  go_upto_region 3 with ((with_reducible refine at_list ?_); refine wp_mks14 rfl _ _ _ rfl (.int .i64 1) (.int .i64 1) rfl rfl _ _ (mk_h1 _) ?_)
  generalize w.alloc (.cells (hc zeros) 46) = W0 at *
  go_loopw [13] (fun i wr => (i = .int .i64 0 ∧ wr = W0) ∨ (i = .int .i64 1 ∧ Hid (Below w.heap.size w wr))) (fun i _ => (1 - intOf i).toNat)
  case atStart => exact .inl ⟨rfl, rfl⟩
  case round =>
    rcases hrel with ⟨rfl, rfl⟩ | ⟨rfl, J⟩
    · go_wp2_with ((with_reducible refine at_list ?_); first | refine wpLoadH25 _ rfl ge (oe + p * 114) rfl I HI.out RI.out (by rfl) ?_ | refine wpList_storeA A25 rfl _ _ rfl w.heap.size (hc I) IZ.out.1 IZ.out.2 rfl rfl (hc zeros) ZZ.out.1 46 R1.out ?_)
      exact ⟨.inr ⟨rfl, below_setRow B1.out (Nat.le_refl _) _⟩, by simp [intOf]⟩
    · clear c1 c2
      go_wp2
      go_ret
      exact ⟨_, rfl, J.out⟩
end
end Go.Proofs.YtcoojkpimbddlaaGreatDoor
