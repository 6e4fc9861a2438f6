/- A tree: better, leads, mayBeBest; a node is weighed: their contracts. A tree: a new node that has the most work is weighed: its contract. A tree: what is known of it while a node is hung on it. -/
import Derived.Test.YtcoojkpimbddlaaGreatDoorP0
import Derived.Test.YtcoojkpimbddlaaGreatDoorX27
namespace Go.Proofs.YtcoojkpimbddlaaGreatDoor
open Go.RowKit
open Go.Deep
open Go.Maps
set_option linter.unusedVariables false
set_option linter.unusedSimpArgs false
theorem ldW14 {W : World} {g off k : Nat} (hr : W.rangeAt g off (wn k).toList) : (Instr.loadAt 51 (.pointer (some ⟨g, off, none⟩))).run Tryz.prog W = .ok (.agg (wn k)) W := by
  have := run_loadAt_mid W g off 51 _ _ hr Tryz.underlying51 rfl (by rw [wn_len]; kernel_rfl)
  simpa using this
section
set_option maxRecDepth 10000
set_option maxHeartbeats 4000000
theorem mayBe_no (g off : Nat) (x : Tno) (w : World) (hr : w.rangeAt g off x.cells) (hw : x.wh = false) : Calls Tryz.prog 137 #[.pointer (some ⟨g, off, none⟩)] w fun e w' => e = .returned (.bool false) ∧ w' = w := by
  have c1 := x.cwh hr
  rw [hw] at c1
  clear hr hw
  go_enter Tryz.func137, Tryz.ntmps137
  go_wp2
  go_ret
  exact ⟨rfl, rfl⟩
theorem leads_more (g off g' off' : Nat) (x y : Tno) (w : World) (hx : w.rangeAt g off x.cells) (hy : w.rangeAt g' off' y.cells) (hxM : x.wk < M) (hyM : y.wk < M) (hlt : y.wk < x.wk) : Calls Tryz.prog 139 #[.pointer (some ⟨g, off, none⟩), .pointer (some ⟨g', off', none⟩)] w fun e w' => e = .returned (.bool true) ∧ Below w.heap.size w w' := by
  have HC : Hid (∀ W, Calls Tryz.prog 179 #[.agg (wn x.wk), .agg (wn y.wk)] W fun e w' => e = .returned (.int .i64 1) ∧ Below W.heap.size W w') := fun W => by
    have := compare_any x.wk y.wk hxM hyM W
    rw [show cmpZ x.wk y.wk = 1 by unfold cmpZ; rw [if_neg (by omega), if_neg (by omega)]] at this
    exact this
  have gx : g < w.heap.size := block_lt_of_cell (a := ⟨g, off + 100, none⟩) (x.cht hx)
  have gy : g' < w.heap.size := block_lt_of_cell (a := ⟨g', off' + 100, none⟩) (y.cht hy)
  have RX : Hid (∀ W, Below w.heap.size w W → W.rangeAt g (off + 102) (wn x.wk).toList ∧ W.rangeAt g' (off' + 102) (wn y.wk).toList) := fun W b => ⟨x.rwk (rangeX_below hx b gx), y.rwk (rangeX_below hy b gy)⟩
  clear hx hy hxM hyM hlt gx gy
  generalize x.wk = xk at *
  generalize y.wk = yk at *
  go_enter Tryz.func139, Tryz.ntmps139
  go_upto_region 1 with fail
  have DV1 := hide ((Below.refl w.heap.size w).drew)
  refine wp_region_held_drew (S := fun W => Below w.heap.size w W) (by kernel_rfl) DV1.out (fun hH => ?_)
  generalize hWd : w.drew = V1 at *
  clear hWd
  refine wt (i := 0) (v := (.pointer (some ⟨g, off, none⟩))) rfl (yl_move (by rfl) _ (by rfl) _ (by rfl)) hH ?_
  change wpAnyH _ _ _ _ _ _ _ (Act.put _ (some 6) _) _
  simp only [Act.put, s0, s1, s2]
  refine wt (i := 1) (v := (.pointer (some ⟨g, off, none⟩))) rfl (.inl ⟨by rfl, fun W _ => by go_simp⟩) hH ?_
  change wpAnyH _ _ _ _ _ _ _ (Act.put _ (some 7) _) _
  simp only [Act.put, s0, s1, s2]
  refine wt (i := 2) (v := (.pointer (some ⟨g, off, none⟩))) rfl (.inl ⟨by rfl, fun W _ => by go_simp⟩) hH ?_
  change wpAnyH _ _ _ _ _ _ _ (Act.put _ (some 8) _) _
  simp only [Act.put, s0, s1, s2]
  refine wt (i := 3) (v := (.pointer (some ⟨g, off + 102, none⟩))) rfl (.inl ⟨by rfl, fun W _ => by go_simp⟩) hH ?_
  change wpAnyH _ _ _ _ _ _ _ (Act.put _ (some 9) _) _
  simp only [Act.put, s0, s1, s2]
  refine wt (i := 4) (v := (.agg (wn xk))) rfl (yl_load (by rfl) _ (by rfl) _ (wn xk) (by rfl) (fun W hS => ldW14 (RX.out W hS).1)) hH ?_
  change wpAnyH _ _ _ _ _ _ _ (Act.put _ (some 10) _) _
  simp only [Act.put, s0, s1, s2]
  refine wt (i := 5) (v := (.pointer (some ⟨g', off', none⟩))) rfl (yl_move (by rfl) _ (by rfl) _ (by rfl)) hH ?_
  change wpAnyH _ _ _ _ _ _ _ (Act.put _ (some 11) _) _
  simp only [Act.put, s0, s1, s2]
  refine wt (i := 6) (v := (.pointer (some ⟨g', off', none⟩))) rfl (.inl ⟨by rfl, fun W _ => by go_simp⟩) hH ?_
  change wpAnyH _ _ _ _ _ _ _ (Act.put _ (some 12) _) _
  simp only [Act.put, s0, s1, s2]
  refine wt (i := 7) (v := (.pointer (some ⟨g', off', none⟩))) rfl (.inl ⟨by rfl, fun W _ => by go_simp⟩) hH ?_
  change wpAnyH _ _ _ _ _ _ _ (Act.put _ (some 13) _) _
  simp only [Act.put, s0, s1, s2]
  refine wt (i := 8) (v := (.pointer (some ⟨g', off' + 102, none⟩))) rfl (.inl ⟨by rfl, fun W _ => by go_simp⟩) hH ?_
  change wpAnyH _ _ _ _ _ _ _ (Act.put _ (some 14) _) _
  simp only [Act.put, s0, s1, s2]
  refine wt (i := 9) (v := (.agg (wn yk))) rfl (yl_load (by rfl) _ (by rfl) _ (wn yk) (by rfl) (fun W hS => ldW14 (RX.out W hS).2)) hH ?_
  change wpAnyH _ _ _ _ _ _ _ (Act.put _ (some 15) _) _
  simp only [Act.put, s0, s1, s2]
  refine wpAnyH_ready (rs := [10]) (by kernel_rfl) (by simp) (AllReadyH.cons rfl (fun K1 hK1 => ?_) AllReadyH.nil)
  go_simp
  refine (HC.out V1).mono ?_
  rintro r V2 ⟨rfl, be⟩
  have DV2 := hide (below_next DV1.out be)
  clear be
  refine hK1.out _ _ DV2.out (fun hH => ?_)
  clear hK1
  refine wt (i := 11) (v := (.int .i64 1)) rfl (.inl ⟨by rfl, fun W _ => by go_simp⟩) hH ?_
  change wpAnyH _ _ _ _ _ _ _ (Act.put _ (some 5) _) _
  simp only [Act.put, s0, s1, s2]
  refine wpAnyH_done (by kernel_rfl) ?_ _
  clear hH
  go_wp2
  have DV3 := hide (below_next DV2.out (Below.refl V2.heap.size V2).drew)
  refine wp_region_held_drew (S := fun W => Below w.heap.size w W) (by kernel_rfl) DV3.out (fun hH => ?_)
  generalize hWd : V2.drew = V3 at *
  clear hWd
  refine wt (i := 0) (v := (.int .i64 1)) rfl (yl_move (by rfl) _ (by rfl) _ (by rfl)) hH ?_
  change wpAnyH _ _ _ _ _ _ _ (Act.put _ (some 17) _) _
  simp only [Act.put, s0, s1, s2]
  refine wt (i := 1) (v := (.bool true)) rfl (.inl ⟨by rfl, fun W _ => by go_simp⟩) hH ?_
  change wpAnyH _ _ _ _ _ _ _ (Act.put _ (some 18) _) _
  simp only [Act.put, s0, s1, s2]
  refine wt (i := 2) (v := (.bool true)) rfl (yl_move (by rfl) _ (by rfl) _ (by rfl)) hH ?_
  change wpAnyH _ _ _ _ _ _ _ (Act.put _ (some 19) _) _
  simp only [Act.put, s0, s1, s2]
  refine wt (i := 3) (v := undef) rfl (.inr ⟨by rfl, rfl⟩) hH ?_
  change wpAnyH _ _ _ _ _ _ _ (Act.put _ (some 20) _) _
  simp only [Act.put, s0, s1, s2]
  refine wt (i := 4) (v := undef) rfl (.inr ⟨by rfl, rfl⟩) hH ?_
  change wpAnyH _ _ _ _ _ _ _ (Act.put _ (some 21) _) _
  simp only [Act.put, s0, s1, s2]
  refine wt (i := 5) (v := undef) rfl (.inr ⟨by rfl, rfl⟩) hH ?_
  change wpAnyH _ _ _ _ _ _ _ (Act.put _ (some 22) _) _
  simp only [Act.put, s0, s1, s2]
  refine wt (i := 6) (v := undef) rfl (.inr ⟨by rfl, rfl⟩) hH ?_
  change wpAnyH _ _ _ _ _ _ _ (Act.put _ (some 23) _) _
  simp only [Act.put, s0, s1, s2]
  refine wt (i := 7) (v := undef) rfl (.inr ⟨by rfl, rfl⟩) hH ?_
  change wpAnyH _ _ _ _ _ _ _ (Act.put _ (some 24) _) _
  simp only [Act.put, s0, s1, s2]
  refine wt (i := 8) (v := undef) rfl (.inr ⟨by rfl, rfl⟩) hH ?_
  change wpAnyH _ _ _ _ _ _ _ (Act.put _ (some 25) _) _
  simp only [Act.put, s0, s1, s2]
  refine wt (i := 9) (v := undef) rfl (.inr ⟨by rfl, rfl⟩) hH ?_
  change wpAnyH _ _ _ _ _ _ _ (Act.put _ (some 26) _) _
  simp only [Act.put, s0, s1, s2]
  refine wt (i := 10) (v := undef) rfl (.inr ⟨by rfl, rfl⟩) hH ?_
  change wpAnyH _ _ _ _ _ _ _ (Act.put _ (some 27) _) _
  simp only [Act.put, s0, s1, s2]
  refine wt (i := 11) (v := undef) rfl (.inr ⟨by rfl, rfl⟩) hH ?_
  change wpAnyH _ _ _ _ _ _ _ (Act.put _ (some 28) _) _
  simp only [Act.put, s0, s1, s2]
  refine wt (i := 12) (v := undef) rfl (.inr ⟨by rfl, rfl⟩) hH ?_
  change wpAnyH _ _ _ _ _ _ _ (Act.put _ (some 29) _) _
  simp only [Act.put, s0, s1, s2]
  refine wt (i := 13) (v := undef) rfl (.inr ⟨by rfl, rfl⟩) hH ?_
  change wpAnyH _ _ _ _ _ _ _ (Act.put _ (some 30) _) _
  simp only [Act.put, s0, s1, s2]
  refine wt (i := 14) (v := undef) rfl (.inr ⟨by rfl, rfl⟩) hH ?_
  change wpAnyH _ _ _ _ _ _ _ (Act.put _ (some 31) _) _
  simp only [Act.put, s0, s1, s2]
  refine wt (i := 15) (v := undef) rfl (.inr ⟨by rfl, rfl⟩) hH ?_
  change wpAnyH _ _ _ _ _ _ _ (Act.put _ (some 32) _) _
  simp only [Act.put, s0, s1, s2]
  refine wt (i := 16) (v := undef) rfl (.inr ⟨by rfl, rfl⟩) hH ?_
  change wpAnyH _ _ _ _ _ _ _ (Act.put _ (some 33) _) _
  simp only [Act.put, s0, s1, s2]
  refine wt (i := 17) (v := undef) rfl (.inr ⟨by rfl, rfl⟩) hH ?_
  change wpAnyH _ _ _ _ _ _ _ (Act.put _ (some 34) _) _
  simp only [Act.put, s0, s1, s2]
  refine wt (i := 18) (v := (.bool true)) rfl (.inl ⟨by rfl, fun W _ => by go_simp⟩) hH ?_
  change wpAnyH _ _ _ _ _ _ _ (Act.put _ (some 35) _) _
  simp only [Act.put, s0, s1, s2]
  refine wt (i := 19) (v := (.bool true)) rfl (.inl ⟨by rfl, fun W _ => by go_simp⟩) hH ?_
  change wpAnyH _ _ _ _ _ _ _ (Act.put _ (some 4) _) _
  simp only [Act.put, s0, s1, s2]
  refine wpAnyH_done (by kernel_rfl) ?_ _
  go_wp2
  go_ret
  exact ⟨rfl, DV3.out⟩
end
theorem Tm4.setBH {B W : World} {gt gm n : Nat} {D : DataW Unit} {ve : Value} {L : List Tno} {tu be bh : Nat} (h : Tm4 B W gt gm n D ve L tu be bh) (p : Nat) : Tm4 B (W.setCell ⟨gt, 4, none⟩ (.int .i64 (p : Int))) gt gm n D ve L tu be p := by
  have hb : ∀ q, q ≠ gt → (W.setCell ⟨gt, 4, none⟩ (.int .i64 (p : Int))).heap[q]? = W.heap[q]? := fun q hq => Below.heap_setCell _ _ _ _ hq
  have hsz : (W.setCell ⟨gt, 4, none⟩ (.int .i64 (p : Int))).heap.size = W.heap.size := by simp [World.setCell]
  have hx := h.bt
  exact ⟨heap_setCell_same W gt 4 _ _ _ h.row, h.map.of_block (hb gm (Ne.symm h.ne)), h.own.of_block fun q hq => hb q (h.be q hq).2.1, ⟨h.bel.os, h.bel.tape, h.bel.output, by rw [hsz]; exact h.bel.size, fun q hq => (hb q (by omega)).trans (h.bel.block q hq)⟩, h.bt, h.bm, h.ne, h.be⟩
section
set_option maxRecDepth 10000
set_option maxHeartbeats 4000000
theorem weigh_lead {B w : World} {gt gm n : Nat} {D : DataW Unit} {ve : Value} {L : List Tno} {tu be bh : Nat} (h : Tm4 B w gt gm n D ve L tu be bh) (hm : L.length ≤ 1000000) (p : Nat) (hp : p < L.length) (hb : bh < L.length) (hw : L[p].wh = false) (hbad : L[p].bad = false) (hxM : L[p].wk < M) (hyM : L[bh].wk < M) (hlt : L[bh].wk < L[p].wk) : Calls Tryz.prog 70 #[.pointer (some ⟨gt, 0, none⟩), .int .i64 (p : Int)] w fun e w' => e = .returned (.tuple #[]) ∧ Tm4 B w' gt gm n D ve L tu be p ∧ Frt (fun g => g = gt) w w' := by
  obtain ⟨ao, cap, rfl⟩ := h.own.form
  obtain ⟨ge, oe, rfl⟩ := h.own.read.base (by omega)
  have X0 := hide h
  have HB : Hid (∀ W, Tm4 B W gt gm n D (.slice (some ⟨ge, oe, none⟩) L.length cap) L tu be bh → Calls Tryz.prog 137 #[.pointer (some ⟨ge, oe + p * 114, none⟩)] W fun e w' => e = .returned (.bool false) ∧ w' = W) := fun W q => mayBe_no ge (oe + p * 114) L[p] W (q.own.read.range p hp) hw
  have HL : Hid (∀ W, Tm4 B W gt gm n D (.slice (some ⟨ge, oe, none⟩) L.length cap) L tu be bh → Calls Tryz.prog 139 #[.pointer (some ⟨ge, oe + p * 114, none⟩), .pointer (some ⟨ge, oe + bh * 114, none⟩)] W fun e w' => e = .returned (.bool true) ∧ Below W.heap.size W w') := fun W q => leads_more ge (oe + p * 114) ge (oe + bh * 114) L[p] L[bh] W (q.own.read.range p hp) (q.own.read.range bh hb) hxM hyM hlt
  have LB : Hid (∀ W, Tm4 B W gt gm n D (.slice (some ⟨ge, oe, none⟩) L.length cap) L tu be bh → W.cell? ⟨ge, oe + p * 114 + 108, none⟩ = some (.bool false)) := fun W q => by
    have := L[p].cbad (q.own.read.range p hp)
    rw [hbad] at this
    exact this
  have x1 : (p : Int) < (L.length : Int) := by omega
  have x2 : (0 : Int) ≤ (p : Int) := by omega
  have x3 : (bh : Int) < (L.length : Int) := by omega
  have x4 : (0 : Int) ≤ (bh : Int) := by omega
  have c1 := h.cells.2.1
  clear hm hp hb hw hbad hxM hyM hlt h
  go_enter Tryz.func70, Tryz.ntmps70
  go_upto_region 1 with fail
  clear c1
  have X1 := hide (X0.out.next (Below.refl w.heap.size w).drew)
  have DV1 := hide ((Below.refl w.heap.size w).drew)
  refine wp_region_held_drew (S := fun W => Tm4 B W gt gm n D (.slice (some ⟨ge, oe, none⟩) L.length cap) L tu be bh) (by kernel_rfl) X1.out (fun hH => ?_)
  generalize hWd : w.drew = V1 at *
  clear hWd
  refine wt (i := 0) (v := (.pointer (some ⟨ge, oe + p * 114, none⟩))) rfl (yl_move (by rfl) _ (by rfl) _ (by rfl)) hH ?_
  change wpAnyH _ _ _ _ _ _ _ (Act.put _ (some 11) _) _
  simp only [Act.put, s0, s1, s2]
  refine wpAnyH_ready (rs := [1]) (by kernel_rfl) (by simp) (AllReadyH.cons rfl (fun K1 hK1 => ?_) AllReadyH.nil)
  go_simp
  refine (HB.out V1 X1.out).mono ?_
  rintro r V2 ⟨rfl, hv⟩
  subst V2
  refine hK1.out _ _ X1.out (fun hH => ?_)
  clear hK1
  refine wt (i := 2) (v := (.bool false)) rfl (yl_move (by rfl) _ (by rfl) _ (by rfl)) hH ?_
  change wpAnyH _ _ _ _ _ _ _ (Act.put _ (some 13) _) _
  simp only [Act.put, s0, s1, s2]
  refine wt (i := 3) (v := undef) rfl (.inr ⟨by rfl, rfl⟩) hH ?_
  change wpAnyH _ _ _ _ _ _ _ (Act.put _ (some 14) _) _
  simp only [Act.put, s0, s1, s2]
  refine wt (i := 4) (v := undef) rfl (.inr ⟨by rfl, rfl⟩) hH ?_
  change wpAnyH _ _ _ _ _ _ _ (Act.put _ (some 15) _) _
  simp only [Act.put, s0, s1, s2]
  refine wt (i := 5) (v := undef) rfl (.inr ⟨by rfl, rfl⟩) hH ?_
  change wpAnyH _ _ _ _ _ _ _ (Act.put _ (some 16) _) _
  simp only [Act.put, s0, s1, s2]
  refine wt (i := 6) (v := undef) rfl (.inr ⟨by rfl, rfl⟩) hH ?_
  change wpAnyH _ _ _ _ _ _ _ (Act.put _ (some 17) _) _
  simp only [Act.put, s0, s1, s2]
  refine wt (i := 7) (v := undef) rfl (.inr ⟨by rfl, rfl⟩) hH ?_
  change wpAnyH _ _ _ _ _ _ _ (Act.put _ (some 18) _) _
  simp only [Act.put, s0, s1, s2]
  refine wt (i := 8) (v := undef) rfl (.inr ⟨by rfl, rfl⟩) hH ?_
  change wpAnyH _ _ _ _ _ _ _ (Act.put _ (some 19) _) _
  simp only [Act.put, s0, s1, s2]
  refine wt (i := 9) (v := undef) rfl (.inr ⟨by rfl, rfl⟩) hH ?_
  change wpAnyH _ _ _ _ _ _ _ (Act.put _ (some 20) _) _
  simp only [Act.put, s0, s1, s2]
  refine wt (i := 10) (v := undef) rfl (.inr ⟨by rfl, rfl⟩) hH ?_
  change wpAnyH _ _ _ _ _ _ _ (Act.put _ (some 21) _) _
  simp only [Act.put, s0, s1, s2]
  refine wt (i := 11) (v := undef) rfl (.inr ⟨by rfl, rfl⟩) hH ?_
  change wpAnyH _ _ _ _ _ _ _ (Act.put _ (some 22) _) _
  simp only [Act.put, s0, s1, s2]
  refine wt (i := 12) (v := undef) rfl (.inr ⟨by rfl, rfl⟩) hH ?_
  change wpAnyH _ _ _ _ _ _ _ (Act.put _ (some 23) _) _
  simp only [Act.put, s0, s1, s2]
  refine wt (i := 13) (v := undef) rfl (.inr ⟨by rfl, rfl⟩) hH ?_
  change wpAnyH _ _ _ _ _ _ _ (Act.put _ (some 24) _) _
  simp only [Act.put, s0, s1, s2]
  refine wt (i := 14) (v := (.bool false)) rfl (.inl ⟨by rfl, fun W _ => by go_simp⟩) hH ?_
  change wpAnyH _ _ _ _ _ _ _ (Act.put _ (some 25) _) _
  simp only [Act.put, s0, s1, s2]
  refine wpAnyH_done (by kernel_rfl) ?_ _
  clear hH
  go_upto_region 3 with fail
  have X2 := hide (X1.out.next (Below.refl V1.heap.size V1).drew)
  have DV2 := hide (below_next DV1.out (Below.refl V1.heap.size V1).drew)
  refine wp_region_held_drew (S := fun W => Tm4 B W gt gm n D (.slice (some ⟨ge, oe, none⟩) L.length cap) L tu be bh) (by kernel_rfl) X2.out (fun hH => ?_)
  generalize hWd : V1.drew = V2 at *
  clear hWd
  refine wt (i := 0) (v := (.pointer (some ⟨ge, oe + p * 114, none⟩))) rfl (yl_move (by rfl) _ (by rfl) _ (by rfl)) hH ?_
  change wpAnyH _ _ _ _ _ _ _ (Act.put _ (some 30) _) _
  simp only [Act.put, s0, s1, s2]
  refine wt (i := 1) (v := (.pointer (some ⟨ge, oe + p * 114, none⟩))) rfl (.inl ⟨by rfl, fun W _ => by go_simp⟩) hH ?_
  change wpAnyH _ _ _ _ _ _ _ (Act.put _ (some 31) _) _
  simp only [Act.put, s0, s1, s2]
  refine wt (i := 2) (v := (.pointer (some ⟨ge, oe + p * 114, none⟩))) rfl (.inl ⟨by rfl, fun W _ => by go_simp⟩) hH ?_
  change wpAnyH _ _ _ _ _ _ _ (Act.put _ (some 32) _) _
  simp only [Act.put, s0, s1, s2]
  refine wt (i := 3) (v := (.pointer (some ⟨ge, oe + p * 114 + 108, none⟩))) rfl (.inl ⟨by rfl, fun W _ => by go_simp⟩) hH ?_
  change wpAnyH _ _ _ _ _ _ _ (Act.put _ (some 33) _) _
  simp only [Act.put, s0, s1, s2]
  refine wt (i := 4) (v := (.bool false)) rfl (.inl ⟨by rfl, fun W hS => by have c4 := (LB.out W hS); go_simp⟩) hH ?_
  change wpAnyH _ _ _ _ _ _ _ (Act.put _ (some 34) _) _
  simp only [Act.put, s0, s1, s2]
  refine wt (i := 5) (v := (.bool true)) rfl (.inl ⟨by rfl, fun W _ => by go_simp⟩) hH ?_
  change wpAnyH _ _ _ _ _ _ _ (Act.put _ (some 35) _) _
  simp only [Act.put, s0, s1, s2]
  refine wt (i := 6) (v := (.bool true)) rfl (yl_move (by rfl) _ (by rfl) _ (by rfl)) hH ?_
  change wpAnyH _ _ _ _ _ _ _ (Act.put _ (some 36) _) _
  simp only [Act.put, s0, s1, s2]
  refine wt (i := 7) (v := (.pointer (some ⟨ge, oe + p * 114, none⟩))) rfl (yl_move (by rfl) _ (by rfl) _ (by rfl)) hH ?_
  change wpAnyH _ _ _ _ _ _ _ (Act.put _ (some 37) _) _
  simp only [Act.put, s0, s1, s2]
  refine wt (i := 8) (v := (.pointer (some ⟨gt, 0, none⟩))) rfl (yl_move (by rfl) _ (by rfl) _ (by rfl)) hH ?_
  change wpAnyH _ _ _ _ _ _ _ (Act.put _ (some 38) _) _
  simp only [Act.put, s0, s1, s2]
  refine wt (i := 9) (v := (.pointer (some ⟨gt, 0, none⟩))) rfl (.inl ⟨by rfl, fun W _ => by go_simp⟩) hH ?_
  change wpAnyH _ _ _ _ _ _ _ (Act.put _ (some 39) _) _
  simp only [Act.put, s0, s1, s2]
  refine wt (i := 10) (v := (.pointer (some ⟨gt, 1, none⟩))) rfl (.inl ⟨by rfl, fun W _ => by go_simp⟩) hH ?_
  change wpAnyH _ _ _ _ _ _ _ (Act.put _ (some 40) _) _
  simp only [Act.put, s0, s1, s2]
  refine wt (i := 11) (v := (.slice (some ⟨ge, oe, none⟩) L.length cap)) rfl (.inl ⟨by rfl, fun W hS => by have c4 := hS.cells.2.1; go_simp⟩) hH ?_
  change wpAnyH _ _ _ _ _ _ _ (Act.put _ (some 41) _) _
  simp only [Act.put, s0, s1, s2]
  refine wt (i := 12) (v := (.pointer (some ⟨gt, 0, none⟩))) rfl (yl_move (by rfl) _ (by rfl) _ (by rfl)) hH ?_
  change wpAnyH _ _ _ _ _ _ _ (Act.put _ (some 42) _) _
  simp only [Act.put, s0, s1, s2]
  refine wt (i := 13) (v := (.pointer (some ⟨gt, 0, none⟩))) rfl (.inl ⟨by rfl, fun W _ => by go_simp⟩) hH ?_
  change wpAnyH _ _ _ _ _ _ _ (Act.put _ (some 43) _) _
  simp only [Act.put, s0, s1, s2]
  refine wt (i := 14) (v := (.pointer (some ⟨gt, 4, none⟩))) rfl (.inl ⟨by rfl, fun W _ => by go_simp⟩) hH ?_
  change wpAnyH _ _ _ _ _ _ _ (Act.put _ (some 44) _) _
  simp only [Act.put, s0, s1, s2]
  refine wt (i := 15) (v := (.int .i64 (bh : Int))) rfl (.inl ⟨by rfl, fun W hS => by have c4 := hS.cells.2.2.2.2; go_simp⟩) hH ?_
  change wpAnyH _ _ _ _ _ _ _ (Act.put _ (some 45) _) _
  simp only [Act.put, s0, s1, s2]
  refine wt (i := 16) (v := (.pointer (some ⟨ge, oe + bh * 114, none⟩))) rfl (.inl ⟨by rfl, fun W _ => by go_simp⟩) hH ?_
  change wpAnyH _ _ _ _ _ _ _ (Act.put _ (some 46) _) _
  simp only [Act.put, s0, s1, s2]
  refine wpAnyH_ready (rs := [17]) (by kernel_rfl) (by simp) (AllReadyH.cons rfl (fun K1 hK1 => ?_) AllReadyH.nil)
  go_simp
  refine (HL.out V2 X2.out).mono ?_
  rintro r V3 ⟨rfl, be⟩
  have X3 := hide (X2.out.next be)
  have DV3 := hide (below_next DV2.out be)
  clear be
  refine hK1.out _ _ X3.out (fun hH => ?_)
  clear hK1
  refine wt (i := 18) (v := (.bool true)) rfl (.inl ⟨by rfl, fun W _ => by go_simp⟩) hH ?_
  change wpAnyH _ _ _ _ _ _ _ (Act.put _ (some 48) _) _
  simp only [Act.put, s0, s1, s2]
  refine wpAnyH_done (by kernel_rfl) ?_ _
  clear hH
  have c4 := X3.out.cells.2.2.2.2
  have f4 := frozen_of_row V3 gt 4 _ _ X3.out.row
  go_wp2
  exact bodyPost_end (results_none (by kernel_rfl) _ _ _) rfl ⟨rfl, X3.out.setBH p, (Frt.of_below DV3.out).trans' (Frt.setCell (S := fun g => g = gt) V3 (p := ⟨gt, 4, none⟩) rfl _)⟩
end
section
variable {α : Type} {E : Ek α}
theorem flatE_set (L : List α) : ∀ (k : Nat) (hk : k < L.length) (x : α) (j : Nat) (hj : j < E.k) (v : Value), E.enc x = (E.enc L[k]).set j v → flatE E (L.set k x) = (flatE E L).set (k * E.k + j) v := by
  induction L with
  | nil => intro k hk; simp at hk
  | cons a r ih =>
    intro k hk x j hj v hx
    cases k with
    | zero =>
      simp only [List.set_cons_zero, flatE_cons, Nat.zero_mul, Nat.zero_add]
      rw [List.set_append_left _ _ (by rw [E.len]; exact hj), hx]
      rfl
    | succ k =>
      simp only [List.set_cons_succ, flatE_cons]
      rw [List.set_append_right _ _ (by rw [E.len, Nat.succ_mul]; omega), E.len, ih k (by simpa using hk) x j hj v hx]
      congr 2
      rw [Nat.succ_mul]
      omega
theorem OX.form0 {W : World} {v : Value} {L : List α} (h : OX E W v L) (h0 : 0 < L.length) : ∃ g c, v = .slice (some ⟨g, 0, none⟩) L.length c := by
  obtain ⟨_, ⟨_, e⟩ | ⟨g, cap, cur, e, _⟩⟩ := h
  · omega
  · exact ⟨g, cap, e⟩
theorem OX.setC {W : World} {g c : Nat} {L : List α} (h : OX E W (.slice (some ⟨g, 0, none⟩) L.length c) L) (k : Nat) (hk : k < L.length) (x : α) (j : Nat) (hj : j < E.k) (v : Value) (hx : E.enc x = (E.enc L[k]).set j v) : OX E (W.setCell ⟨g, k * E.k + j, none⟩ v) (.slice (some ⟨g, 0, none⟩) L.length c) (L.set k x) := by
  obtain ⟨hl, ⟨e, _⟩ | ⟨g', cap, cur, e, hb, hh, h1, h2, h3, h4⟩⟩ := h
  · cases e
  · cases e
    refine ⟨by rw [flatE_set L k hk x j hj v hx, List.length_set, List.length_set]; exact hl, .inr ⟨g, c, cur.setIfInBounds (k * E.k + j) v, by rw [List.length_set], hb, heap_setCell_same W g _ _ _ v hh, by rw [List.length_set]; exact h1, h2, by rw [Array.size_setIfInBounds]; exact h3, ?_⟩⟩
    rw [flatE_set L k hk x j hj v hx, List.length_set, Array.toList_setIfInBounds, ← h4]
    rw [List.take_set]
end
def Tno.withYo (x : Tno) (p : Nat) : Tno := { x with yo := p }
theorem Tno.withYo_cells (x : Tno) (p : Nat) : (x.withYo p).cells = x.cells.set 112 (.int .i64 (p : Int)) := by
  rw [Tno.cells, Tno.cells, List.set_append_right _ _ (by rw [x.pub_len]; omega), x.pub_len]
  rfl
theorem Tm4.setYo {B W : World} {gt gm n g c : Nat} {D : DataW Unit} {L : List Tno} {tu be bh : Nat} (h : Tm4 B W gt gm n D (.slice (some ⟨g, 0, none⟩) L.length c) L tu be bh) (k : Nat) (hk : k < L.length) (p : Nat) : Tm4 B (W.setCell ⟨g, k * 114 + 112, none⟩ (.int .i64 (p : Int))) gt gm n D (.slice (some ⟨g, 0, none⟩) L.length c) (L.set k (L[k].withYo p)) tu be bh := by
  have hne := h.be g rfl
  have hb : ∀ q, q ≠ g → (W.setCell ⟨g, k * 114 + 112, none⟩ (.int .i64 (p : Int))).heap[q]? = W.heap[q]? := fun q hq => Below.heap_setCell _ _ _ _ hq
  have hsz : (W.setCell ⟨g, k * 114 + 112, none⟩ (.int .i64 (p : Int))).heap.size = W.heap.size := by simp [World.setCell]
  exact ⟨(hb gt (fun e => hne.2.1 e.symm)).trans h.row, h.map.of_block (hb gm (fun e => hne.2.2 e.symm)), OX.setC (E := KNo) h.own k hk _ 112 (by decide) _ (L[k].withYo_cells p), ⟨h.bel.os, h.bel.tape, h.bel.output, by rw [hsz]; exact h.bel.size, fun q hq => (hb q (by omega)).trans (h.bel.block q hq)⟩, h.bt, h.bm, h.ne, h.be⟩
theorem Tm4.putM {B W W' : World} {gt gm n n' : Nat} {D D' : DataW Unit} {ve : Value} {L : List Tno} {tu be bh : Nat} (h : Tm4 B W gt gm n D ve L tu be bh) (ho : OmI W' gm n' D') (g : W.grownBy W' (some gm)) : Tm4 B W' gt gm n' D' ve L tu be bh := by
  have hs := h.bel.size
  have hz := g.size
  refine ⟨(g.block _ (lt_heap h.row) fun c => h.ne (by cases c; rfl)).trans h.row, ho, h.own.of_block fun k hk => g.block _ (h.own.lt k hk) fun c => (h.be k hk).2.2 (by cases c; rfl), ⟨g.os.trans h.bel.os, g.tape.trans h.bel.tape, g.output.trans h.bel.output, by omega, fun k hk => (g.block k (by omega) fun c => ?_).trans (h.bel.block k hk)⟩, h.bt, h.bm, h.ne, h.be⟩
  have := h.bm
  cases c
  omega
theorem Tm4.setL {B W W' : World} {gt gm n : Nat} {D : DataW Unit} {ve : Value} {L : List Tno} {tu be bh : Nat} (h : Tm4 B W gt gm n D ve L tu be bh) {v' : Value} {L' : List Tno} (on : Onto W W' ve v') (ho : OX KNo W' v' L') : W'.heap[gt]? = some (.cells (trA gm ve tu be bh) 123 (0, 0)) ∧ Tm4 B (W'.setCell ⟨gt, 1, none⟩ v') gt gm n D v' L' tu be bh := by
  have g := on.grown
  have hs := h.bel.size
  have hz := g.size
  have blk : ∀ k, k < W.heap.size → ve.ownBlock ≠ some k → W'.heap[k]? = W.heap[k]? := fun k hk hn => g.block k hk (fun e => hn e.symm)
  have hrow : W'.heap[gt]? = some (.cells (trA gm ve tu be bh) 123 (0, 0)) := (blk gt (lt_heap h.row) fun e => (h.be gt e).2.1 rfl).trans h.row
  have hb : ∀ k, k ≠ gt → (W'.setCell ⟨gt, 1, none⟩ v').heap[k]? = W'.heap[k]? := fun k hk => Below.heap_setCell _ _ _ _ hk
  have hsz : (W'.setCell ⟨gt, 1, none⟩ v').heap.size = W'.heap.size := by simp [World.setCell]
  have hv : ∀ k, v'.ownBlock = some k → B.heap.size ≤ k ∧ k ≠ gt ∧ k ≠ gm := fun k hk => by
    rcases on.lies with e | ⟨c, e, hc⟩
    · exact h.be k (by rw [← e]; exact hk)
    · rw [e] at hk
      cases hk
      have h1 := lt_heap h.row
      have h2 := h.map.lt
      exact ⟨by omega, by omega, by omega⟩
  refine ⟨hrow, ⟨heap_setCell_same W' gt 1 _ _ v' hrow, ?_, ho.of_block fun k hk => hb k (hv k hk).2.1, ?_, h.bt, h.bm, h.ne, hv⟩⟩
  · exact h.map.of_block ((hb gm (Ne.symm h.ne)).trans (blk gm h.map.lt fun e => (h.be gm e).2.2 rfl))
  · have hx := h.bt
    exact ⟨g.os.trans h.bel.os, g.tape.trans h.bel.tape, g.output.trans h.bel.output, by rw [hsz]; omega, fun k hk => (hb k (by omega)).trans ((blk k (by omega) fun e => by have := (h.be k e).1; omega).trans (h.bel.block k hk))⟩
def newNo (L : List Tno) (k : Nat) (hk : k < L.length) (l : List UInt8) (hl : l.length = 32) (x : Hd) (own anc : Nat) : Tno := ⟨l, x, L[k].ht + 1, L.length, L[k].wk + own, false, false, false, 0, k, anc, 0, L[k].yo, hl⟩
theorem bld_pub (i : List UInt8) (hi : i.length = 32) (h : Hd) (a b k : Nat) (W : World) : (Instr.build 53 #[(0, .agg (hc i)), (1, .agg h.cells.toArray), (2, .int .i64 (a : Int)), (3, .int .i64 (b : Int)), (4, .agg (wn k))]).run Tryz.prog W = .ok (.agg (⟨i, h, a, b, k, false, false, false, 0, 0, 0, 0, 0, hi⟩ : Tno).pub.toArray) W := by
  obtain ⟨ve, p, r, t, q, o, hp, hr⟩ := h
  obtain ⟨_, _, _, _, _, _, _, _, _, _, _, _, _, _, _, _, _, _, _, _, _, _, _, _, _, _, _, _, _, _, _, _, rfl⟩ := id32' i hi
  obtain ⟨_, _, _, _, _, _, _, _, _, _, _, _, _, _, _, _, _, _, _, _, _, _, _, _, _, _, _, _, _, _, _, _, rfl⟩ := id32' p hp
  obtain ⟨_, _, _, _, _, _, _, _, _, _, _, _, _, _, _, _, _, _, _, _, _, _, _, _, _, _, _, _, _, _, _, _, rfl⟩ := id32' r hr
  kernel_rfl
theorem bld_node (i : List UInt8) (hi : i.length = 32) (h : Hd) (a b k c d e : Nat) (W : World) : (Instr.build 120 #[(0, .agg (⟨i, h, a, b, k, false, false, false, 0, 0, 0, 0, 0, hi⟩ : Tno).pub.toArray), (1, .int .i64 (c : Int)), (2, .int .i64 (d : Int)), (4, .int .i64 (e : Int))]).run Tryz.prog W = .ok (.agg (⟨i, h, a, b, k, false, false, false, 0, c, d, 0, e, hi⟩ : Tno).cells.toArray) W := by
  obtain ⟨ve, p, r, t, q, o, hp, hr⟩ := h
  obtain ⟨_, _, _, _, _, _, _, _, _, _, _, _, _, _, _, _, _, _, _, _, _, _, _, _, _, _, _, _, _, _, _, _, rfl⟩ := id32' i hi
  obtain ⟨_, _, _, _, _, _, _, _, _, _, _, _, _, _, _, _, _, _, _, _, _, _, _, _, _, _, _, _, _, _, _, _, rfl⟩ := id32' p hp
  obtain ⟨_, _, _, _, _, _, _, _, _, _, _, _, _, _, _, _, _, _, _, _, _, _, _, _, _, _, _, _, _, _, _, _, rfl⟩ := id32' r hr
  kernel_rfl
section
set_option maxRecDepth 10000
set_option maxHeartbeats 4000000
theorem skip1 (w : World) : Calls Tryz.prog 198 #[.int .i64 1] w fun e w' => e = .returned (.int .i64 0) ∧ w' = w := by
  go_enter Tryz.func198, Tryz.ntmps198
  go_wp2
  go_ret
  exact ⟨rfl, rfl⟩
end
end Go.Proofs.YtcoojkpimbddlaaGreatDoor
