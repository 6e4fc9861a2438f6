/- A tree: a node that is whole and has more work than the best one: mayBeBest, better: their contracts. The calls of locate on a nil tree: their contracts. Missing on a nil tree; Make of a tree of one node; the law's awake: their contracts. Make of a tree of one node; the law's awake; LocateNil's walk. -/
import Derived.Test.YtcoojkpimbddlaaGreatDoorP0
import Derived.Test.YtcoojkpimbddlaaGreatDoorX37
import Derived.Test.YtcoojkpimbddlaaGreatDoorX27
import Derived.Defers
namespace Go.Proofs.YtcoojkpimbddlaaGreatDoor
open Go.RowKit
open Go.Deep
open Go.Maps
set_option linter.unusedVariables false
set_option linter.unusedSimpArgs false
section
set_option maxRecDepth 10000
set_option maxHeartbeats 4000000
theorem mayBe_yes (g off : Nat) (x : Tno) (w : World) (hr : w.rangeAt g off x.cells) (hw : x.wh = true) (hb : x.bad = false) : Calls Tryz.prog 137 #[.pointer (some ⟨g, off, none⟩)] w fun e w' => e = .returned (.bool true) ∧ w' = w := by
  have c1 := x.cwh hr
  have c2 := x.cbad hr
  rw [hw] at c1
  rw [hb] at c2
  clear hr hw hb
  go_enter Tryz.func137, Tryz.ntmps137
  go_wp2
  go_ret
  exact ⟨rfl, rfl⟩
theorem better_more (g off g' off' : Nat) (x y : Tno) (w : World) (hx : w.rangeAt g off x.cells) (hy : w.rangeAt g' off' y.cells) (hxM : x.wk < M) (hyM : y.wk < M) (hlt : y.wk < x.wk) : Calls Tryz.prog 138 #[.pointer (some ⟨g, off, none⟩), .pointer (some ⟨g', off', none⟩)] w fun e w' => e = .returned (.bool true) ∧ Below w.heap.size w w' := by
  have HC : Hid (∀ W, Calls Tryz.prog 179 #[.agg (wn x.wk), .agg (wn y.wk)] W fun e w' => e = .returned (.int .i64 1) ∧ Below W.heap.size W w') := fun W => by
    have := compare_any x.wk y.wk hxM hyM W
    rw [show cmpZ x.wk y.wk = 1 by unfold cmpZ; rw [if_neg (by omega), if_neg (by omega)]] at this
    exact this
  have gx : g < w.heap.size := block_lt_of_cell (a := ⟨g, off + 100, none⟩) (x.cht hx)
  have gy : g' < w.heap.size := block_lt_of_cell (a := ⟨g', off' + 100, none⟩) (y.cht hy)
  have RX : Hid (∀ W, Below w.heap.size w W → W.rangeAt g (off + 102) (wn x.wk).toList ∧ W.rangeAt g' (off' + 102) (wn y.wk).toList) := fun W b => ⟨x.rwk (rangeX_below hx b gx), y.rwk (rangeX_below hy b gy)⟩
  clear hx hy hxM hyM hlt gx gy
  generalize x.wk = xk at *
  generalize y.wk = yk at *
  go_enter Tryz.func138, Tryz.ntmps138
  go_upto_region 1 with fail
  have DV1 := hide ((Below.refl w.heap.size w).drew)
  refine wp_region_held_drew (S := fun W => Below w.heap.size w W) (by kernel_rfl) DV1.out (fun hH => ?_)
  generalize hWd : w.drew = V1 at *
  clear hWd
  refine wt (i := 0) (v := (.pointer (some ⟨g, off, none⟩))) rfl (yl_move (by rfl) _ (by rfl) _ (by rfl)) hH ?_
  change wpAnyH _ _ _ _ _ _ _ (Act.put _ (some 6) _) _
  simp only [Act.put, s0, s1, s2]
  refine wt (i := 1) (v := (.pointer (some ⟨g, off, none⟩))) rfl (.inl ⟨by rfl, fun W _ => by go_simp⟩) hH ?_
  change wpAnyH _ _ _ _ _ _ _ (Act.put _ (some 7) _) _
  simp only [Act.put, s0, s1, s2]
  refine wt (i := 2) (v := (.pointer (some ⟨g, off, none⟩))) rfl (.inl ⟨by rfl, fun W _ => by go_simp⟩) hH ?_
  change wpAnyH _ _ _ _ _ _ _ (Act.put _ (some 8) _) _
  simp only [Act.put, s0, s1, s2]
  refine wt (i := 3) (v := (.pointer (some ⟨g, off + 102, none⟩))) rfl (.inl ⟨by rfl, fun W _ => by go_simp⟩) hH ?_
  change wpAnyH _ _ _ _ _ _ _ (Act.put _ (some 9) _) _
  simp only [Act.put, s0, s1, s2]
  refine wt (i := 4) (v := (.agg (wn xk))) rfl (yl_load (by rfl) _ (by rfl) _ (wn xk) (by rfl) (fun W hS => ldW14 (RX.out W hS).1)) hH ?_
  change wpAnyH _ _ _ _ _ _ _ (Act.put _ (some 10) _) _
  simp only [Act.put, s0, s1, s2]
  refine wt (i := 5) (v := (.pointer (some ⟨g', off', none⟩))) rfl (yl_move (by rfl) _ (by rfl) _ (by rfl)) hH ?_
  change wpAnyH _ _ _ _ _ _ _ (Act.put _ (some 11) _) _
  simp only [Act.put, s0, s1, s2]
  refine wt (i := 6) (v := (.pointer (some ⟨g', off', none⟩))) rfl (.inl ⟨by rfl, fun W _ => by go_simp⟩) hH ?_
  change wpAnyH _ _ _ _ _ _ _ (Act.put _ (some 12) _) _
  simp only [Act.put, s0, s1, s2]
  refine wt (i := 7) (v := (.pointer (some ⟨g', off', none⟩))) rfl (.inl ⟨by rfl, fun W _ => by go_simp⟩) hH ?_
  change wpAnyH _ _ _ _ _ _ _ (Act.put _ (some 13) _) _
  simp only [Act.put, s0, s1, s2]
  refine wt (i := 8) (v := (.pointer (some ⟨g', off' + 102, none⟩))) rfl (.inl ⟨by rfl, fun W _ => by go_simp⟩) hH ?_
  change wpAnyH _ _ _ _ _ _ _ (Act.put _ (some 14) _) _
  simp only [Act.put, s0, s1, s2]
  refine wt (i := 9) (v := (.agg (wn yk))) rfl (yl_load (by rfl) _ (by rfl) _ (wn yk) (by rfl) (fun W hS => ldW14 (RX.out W hS).2)) hH ?_
  change wpAnyH _ _ _ _ _ _ _ (Act.put _ (some 15) _) _
  simp only [Act.put, s0, s1, s2]
  refine wpAnyH_ready (rs := [10]) (by kernel_rfl) (by simp) (AllReadyH.cons rfl (fun K1 hK1 => ?_) AllReadyH.nil)
  go_simp
  refine (HC.out V1).mono ?_
  rintro r V2 ⟨rfl, be⟩
  have DV2 := hide (below_next DV1.out be)
  clear be
  refine hK1.out _ _ DV2.out (fun hH => ?_)
  clear hK1
  refine wt (i := 11) (v := (.int .i64 1)) rfl (.inl ⟨by rfl, fun W _ => by go_simp⟩) hH ?_
  change wpAnyH _ _ _ _ _ _ _ (Act.put _ (some 5) _) _
  simp only [Act.put, s0, s1, s2]
  refine wpAnyH_done (by kernel_rfl) ?_ _
  clear hH
  go_wp2
  have DV3 := hide (below_next DV2.out (Below.refl V2.heap.size V2).drew)
  refine wp_region_held_drew (S := fun W => Below w.heap.size w W) (by kernel_rfl) DV3.out (fun hH => ?_)
  generalize hWd : V2.drew = V3 at *
  clear hWd
  refine wt (i := 0) (v := (.int .i64 1)) rfl (yl_move (by rfl) _ (by rfl) _ (by rfl)) hH ?_
  change wpAnyH _ _ _ _ _ _ _ (Act.put _ (some 17) _) _
  simp only [Act.put, s0, s1, s2]
  refine wt (i := 1) (v := (.bool true)) rfl (.inl ⟨by rfl, fun W _ => by go_simp⟩) hH ?_
  change wpAnyH _ _ _ _ _ _ _ (Act.put _ (some 18) _) _
  simp only [Act.put, s0, s1, s2]
  refine wt (i := 2) (v := (.bool true)) rfl (yl_move (by rfl) _ (by rfl) _ (by rfl)) hH ?_
  change wpAnyH _ _ _ _ _ _ _ (Act.put _ (some 19) _) _
  simp only [Act.put, s0, s1, s2]
  refine wt (i := 3) (v := undef) rfl (.inr ⟨by rfl, rfl⟩) hH ?_
  change wpAnyH _ _ _ _ _ _ _ (Act.put _ (some 20) _) _
  simp only [Act.put, s0, s1, s2]
  refine wt (i := 4) (v := undef) rfl (.inr ⟨by rfl, rfl⟩) hH ?_
  change wpAnyH _ _ _ _ _ _ _ (Act.put _ (some 21) _) _
  simp only [Act.put, s0, s1, s2]
  refine wt (i := 5) (v := undef) rfl (.inr ⟨by rfl, rfl⟩) hH ?_
  change wpAnyH _ _ _ _ _ _ _ (Act.put _ (some 22) _) _
  simp only [Act.put, s0, s1, s2]
  refine wt (i := 6) (v := undef) rfl (.inr ⟨by rfl, rfl⟩) hH ?_
  change wpAnyH _ _ _ _ _ _ _ (Act.put _ (some 23) _) _
  simp only [Act.put, s0, s1, s2]
  refine wt (i := 7) (v := undef) rfl (.inr ⟨by rfl, rfl⟩) hH ?_
  change wpAnyH _ _ _ _ _ _ _ (Act.put _ (some 24) _) _
  simp only [Act.put, s0, s1, s2]
  refine wt (i := 8) (v := undef) rfl (.inr ⟨by rfl, rfl⟩) hH ?_
  change wpAnyH _ _ _ _ _ _ _ (Act.put _ (some 25) _) _
  simp only [Act.put, s0, s1, s2]
  refine wt (i := 9) (v := undef) rfl (.inr ⟨by rfl, rfl⟩) hH ?_
  change wpAnyH _ _ _ _ _ _ _ (Act.put _ (some 26) _) _
  simp only [Act.put, s0, s1, s2]
  refine wt (i := 10) (v := undef) rfl (.inr ⟨by rfl, rfl⟩) hH ?_
  change wpAnyH _ _ _ _ _ _ _ (Act.put _ (some 27) _) _
  simp only [Act.put, s0, s1, s2]
  refine wt (i := 11) (v := undef) rfl (.inr ⟨by rfl, rfl⟩) hH ?_
  change wpAnyH _ _ _ _ _ _ _ (Act.put _ (some 28) _) _
  simp only [Act.put, s0, s1, s2]
  refine wt (i := 12) (v := undef) rfl (.inr ⟨by rfl, rfl⟩) hH ?_
  change wpAnyH _ _ _ _ _ _ _ (Act.put _ (some 29) _) _
  simp only [Act.put, s0, s1, s2]
  refine wt (i := 13) (v := undef) rfl (.inr ⟨by rfl, rfl⟩) hH ?_
  change wpAnyH _ _ _ _ _ _ _ (Act.put _ (some 30) _) _
  simp only [Act.put, s0, s1, s2]
  refine wt (i := 14) (v := undef) rfl (.inr ⟨by rfl, rfl⟩) hH ?_
  change wpAnyH _ _ _ _ _ _ _ (Act.put _ (some 31) _) _
  simp only [Act.put, s0, s1, s2]
  refine wt (i := 15) (v := undef) rfl (.inr ⟨by rfl, rfl⟩) hH ?_
  change wpAnyH _ _ _ _ _ _ _ (Act.put _ (some 32) _) _
  simp only [Act.put, s0, s1, s2]
  refine wt (i := 16) (v := undef) rfl (.inr ⟨by rfl, rfl⟩) hH ?_
  change wpAnyH _ _ _ _ _ _ _ (Act.put _ (some 33) _) _
  simp only [Act.put, s0, s1, s2]
  refine wt (i := 17) (v := undef) rfl (.inr ⟨by rfl, rfl⟩) hH ?_
  change wpAnyH _ _ _ _ _ _ _ (Act.put _ (some 34) _) _
  simp only [Act.put, s0, s1, s2]
  refine wt (i := 18) (v := (.bool true)) rfl (.inl ⟨by rfl, fun W _ => by go_simp⟩) hH ?_
  change wpAnyH _ _ _ _ _ _ _ (Act.put _ (some 35) _) _
  simp only [Act.put, s0, s1, s2]
  refine wt (i := 19) (v := (.bool true)) rfl (.inl ⟨by rfl, fun W _ => by go_simp⟩) hH ?_
  change wpAnyH _ _ _ _ _ _ _ (Act.put _ (some 4) _) _
  simp only [Act.put, s0, s1, s2]
  refine wpAnyH_done (by kernel_rfl) ?_ _
  go_wp2
  go_ret
  exact ⟨rfl, DV3.out⟩
theorem leads_self (g off : Nat) (x : Tno) (w : World) (hx : w.rangeAt g off x.cells) (hxM : x.wk < M) : Calls Tryz.prog 139 #[.pointer (some ⟨g, off, none⟩), .pointer (some ⟨g, off, none⟩)] w fun e w' => e = .returned (.bool false) ∧ Below w.heap.size w w' := by
  have HC : Hid (∀ W, Calls Tryz.prog 179 #[.agg (wn x.wk), .agg (wn x.wk)] W fun e w' => e = .returned (.int .i64 0) ∧ Below W.heap.size W w') := fun W => by
    have := compare_any x.wk x.wk hxM hxM W
    rw [show cmpZ x.wk x.wk = 0 by unfold cmpZ; rw [if_neg (by omega), if_pos (by omega)]] at this
    exact this
  have gx : g < w.heap.size := block_lt_of_cell (a := ⟨g, off + 100, none⟩) (x.cht hx)
  have RX : Hid (∀ W, Below w.heap.size w W → W.rangeAt g (off + 102) (wn x.wk).toList ∧ W.cell? ⟨g, off + 101, none⟩ = some (.int .i64 (x.od : Int))) := fun W b => ⟨x.rwk (rangeX_below hx b gx), x.cod (rangeX_below hx b gx)⟩
  clear hx hxM gx
  generalize x.wk = xk at *
  generalize x.od = od at *
  go_enter Tryz.func139, Tryz.ntmps139
  go_upto_region 1 with fail
  have DV1 := hide ((Below.refl w.heap.size w).drew)
  refine wp_region_held_drew (S := fun W => Below w.heap.size w W) (by kernel_rfl) DV1.out (fun hH => ?_)
  generalize hWd : w.drew = V1 at *
  clear hWd
  refine wt (i := 0) (v := (.pointer (some ⟨g, off, none⟩))) rfl (yl_move (by rfl) _ (by rfl) _ (by rfl)) hH ?_
  change wpAnyH _ _ _ _ _ _ _ (Act.put _ (some 6) _) _
  simp only [Act.put, s0, s1, s2]
  refine wt (i := 1) (v := (.pointer (some ⟨g, off, none⟩))) rfl (.inl ⟨by rfl, fun W _ => by go_simp⟩) hH ?_
  change wpAnyH _ _ _ _ _ _ _ (Act.put _ (some 7) _) _
  simp only [Act.put, s0, s1, s2]
  refine wt (i := 2) (v := (.pointer (some ⟨g, off, none⟩))) rfl (.inl ⟨by rfl, fun W _ => by go_simp⟩) hH ?_
  change wpAnyH _ _ _ _ _ _ _ (Act.put _ (some 8) _) _
  simp only [Act.put, s0, s1, s2]
  refine wt (i := 3) (v := (.pointer (some ⟨g, off + 102, none⟩))) rfl (.inl ⟨by rfl, fun W _ => by go_simp⟩) hH ?_
  change wpAnyH _ _ _ _ _ _ _ (Act.put _ (some 9) _) _
  simp only [Act.put, s0, s1, s2]
  refine wt (i := 4) (v := (.agg (wn xk))) rfl (yl_load (by rfl) _ (by rfl) _ (wn xk) (by rfl) (fun W hS => ldW14 (RX.out W hS).1)) hH ?_
  change wpAnyH _ _ _ _ _ _ _ (Act.put _ (some 10) _) _
  simp only [Act.put, s0, s1, s2]
  refine wt (i := 5) (v := (.pointer (some ⟨g, off, none⟩))) rfl (yl_move (by rfl) _ (by rfl) _ (by rfl)) hH ?_
  change wpAnyH _ _ _ _ _ _ _ (Act.put _ (some 11) _) _
  simp only [Act.put, s0, s1, s2]
  refine wt (i := 6) (v := (.pointer (some ⟨g, off, none⟩))) rfl (.inl ⟨by rfl, fun W _ => by go_simp⟩) hH ?_
  change wpAnyH _ _ _ _ _ _ _ (Act.put _ (some 12) _) _
  simp only [Act.put, s0, s1, s2]
  refine wt (i := 7) (v := (.pointer (some ⟨g, off, none⟩))) rfl (.inl ⟨by rfl, fun W _ => by go_simp⟩) hH ?_
  change wpAnyH _ _ _ _ _ _ _ (Act.put _ (some 13) _) _
  simp only [Act.put, s0, s1, s2]
  refine wt (i := 8) (v := (.pointer (some ⟨g, off + 102, none⟩))) rfl (.inl ⟨by rfl, fun W _ => by go_simp⟩) hH ?_
  change wpAnyH _ _ _ _ _ _ _ (Act.put _ (some 14) _) _
  simp only [Act.put, s0, s1, s2]
  refine wt (i := 9) (v := (.agg (wn xk))) rfl (yl_load (by rfl) _ (by rfl) _ (wn xk) (by rfl) (fun W hS => ldW14 (RX.out W hS).1)) hH ?_
  change wpAnyH _ _ _ _ _ _ _ (Act.put _ (some 15) _) _
  simp only [Act.put, s0, s1, s2]
  refine wpAnyH_ready (rs := [10]) (by kernel_rfl) (by simp) (AllReadyH.cons rfl (fun K1 hK1 => ?_) AllReadyH.nil)
  go_simp
  refine (HC.out V1).mono ?_
  rintro r V2 ⟨rfl, be⟩
  have DV2 := hide (below_next DV1.out be)
  clear be
  refine hK1.out _ _ DV2.out (fun hH => ?_)
  clear hK1
  refine wt (i := 11) (v := (.int .i64 0)) rfl (.inl ⟨by rfl, fun W _ => by go_simp⟩) hH ?_
  change wpAnyH _ _ _ _ _ _ _ (Act.put _ (some 5) _) _
  simp only [Act.put, s0, s1, s2]
  refine wpAnyH_done (by kernel_rfl) ?_ _
  clear hH
  go_wp2
  have DV3 := hide (below_next DV2.out (Below.refl V2.heap.size V2).drew)
  refine wp_region_held_drew (S := fun W => Below w.heap.size w W) (by kernel_rfl) DV3.out (fun hH => ?_)
  generalize hWd : V2.drew = V3 at *
  clear hWd
  refine wt (i := 0) (v := (.int .i64 0)) rfl (yl_move (by rfl) _ (by rfl) _ (by rfl)) hH ?_
  change wpAnyH _ _ _ _ _ _ _ (Act.put _ (some 17) _) _
  simp only [Act.put, s0, s1, s2]
  refine wt (i := 1) (v := (.bool false)) rfl (.inl ⟨by rfl, fun W _ => by go_simp⟩) hH ?_
  change wpAnyH _ _ _ _ _ _ _ (Act.put _ (some 18) _) _
  simp only [Act.put, s0, s1, s2]
  refine wt (i := 2) (v := (.bool false)) rfl (yl_move (by rfl) _ (by rfl) _ (by rfl)) hH ?_
  change wpAnyH _ _ _ _ _ _ _ (Act.put _ (some 19) _) _
  simp only [Act.put, s0, s1, s2]
  refine wt (i := 3) (v := (.int .i64 0)) rfl (yl_move (by rfl) _ (by rfl) _ (by rfl)) hH ?_
  change wpAnyH _ _ _ _ _ _ _ (Act.put _ (some 20) _) _
  simp only [Act.put, s0, s1, s2]
  refine wt (i := 4) (v := (.bool true)) rfl (.inl ⟨by rfl, fun W _ => by go_simp⟩) hH ?_
  change wpAnyH _ _ _ _ _ _ _ (Act.put _ (some 21) _) _
  simp only [Act.put, s0, s1, s2]
  refine wt (i := 5) (v := (.bool true)) rfl (yl_move (by rfl) _ (by rfl) _ (by rfl)) hH ?_
  change wpAnyH _ _ _ _ _ _ _ (Act.put _ (some 22) _) _
  simp only [Act.put, s0, s1, s2]
  refine wt (i := 6) (v := (.pointer (some ⟨g, off, none⟩))) rfl (yl_move (by rfl) _ (by rfl) _ (by rfl)) hH ?_
  change wpAnyH _ _ _ _ _ _ _ (Act.put _ (some 23) _) _
  simp only [Act.put, s0, s1, s2]
  refine wt (i := 7) (v := (.pointer (some ⟨g, off, none⟩))) rfl (.inl ⟨by rfl, fun W _ => by go_simp⟩) hH ?_
  change wpAnyH _ _ _ _ _ _ _ (Act.put _ (some 24) _) _
  simp only [Act.put, s0, s1, s2]
  refine wt (i := 8) (v := (.pointer (some ⟨g, off, none⟩))) rfl (.inl ⟨by rfl, fun W _ => by go_simp⟩) hH ?_
  change wpAnyH _ _ _ _ _ _ _ (Act.put _ (some 25) _) _
  simp only [Act.put, s0, s1, s2]
  refine wt (i := 9) (v := (.pointer (some ⟨g, off + 101, none⟩))) rfl (.inl ⟨by rfl, fun W _ => by go_simp⟩) hH ?_
  change wpAnyH _ _ _ _ _ _ _ (Act.put _ (some 26) _) _
  simp only [Act.put, s0, s1, s2]
  refine wt (i := 10) (v := (.int .i64 (od : Int))) rfl (.inl ⟨by rfl, fun W hS => by have c4 := (RX.out W hS).2; go_simp⟩) hH ?_
  change wpAnyH _ _ _ _ _ _ _ (Act.put _ (some 27) _) _
  simp only [Act.put, s0, s1, s2]
  refine wt (i := 11) (v := (.pointer (some ⟨g, off, none⟩))) rfl (yl_move (by rfl) _ (by rfl) _ (by rfl)) hH ?_
  change wpAnyH _ _ _ _ _ _ _ (Act.put _ (some 28) _) _
  simp only [Act.put, s0, s1, s2]
  refine wt (i := 12) (v := (.pointer (some ⟨g, off, none⟩))) rfl (.inl ⟨by rfl, fun W _ => by go_simp⟩) hH ?_
  change wpAnyH _ _ _ _ _ _ _ (Act.put _ (some 29) _) _
  simp only [Act.put, s0, s1, s2]
  refine wt (i := 13) (v := (.pointer (some ⟨g, off, none⟩))) rfl (.inl ⟨by rfl, fun W _ => by go_simp⟩) hH ?_
  change wpAnyH _ _ _ _ _ _ _ (Act.put _ (some 30) _) _
  simp only [Act.put, s0, s1, s2]
  refine wt (i := 14) (v := (.pointer (some ⟨g, off + 101, none⟩))) rfl (.inl ⟨by rfl, fun W _ => by go_simp⟩) hH ?_
  change wpAnyH _ _ _ _ _ _ _ (Act.put _ (some 31) _) _
  simp only [Act.put, s0, s1, s2]
  refine wt (i := 15) (v := (.int .i64 (od : Int))) rfl (.inl ⟨by rfl, fun W hS => by have c4 := (RX.out W hS).2; go_simp⟩) hH ?_
  change wpAnyH _ _ _ _ _ _ _ (Act.put _ (some 32) _) _
  simp only [Act.put, s0, s1, s2]
  refine wt (i := 16) (v := (.bool false)) rfl (.inl ⟨by rfl, fun W _ => by go_simp⟩) hH ?_
  change wpAnyH _ _ _ _ _ _ _ (Act.put _ (some 33) _) _
  simp only [Act.put, s0, s1, s2]
  refine wt (i := 17) (v := (.bool false)) rfl (.inl ⟨by rfl, fun W _ => by go_simp⟩) hH ?_
  change wpAnyH _ _ _ _ _ _ _ (Act.put _ (some 34) _) _
  simp only [Act.put, s0, s1, s2]
  refine wt (i := 18) (v := (.bool false)) rfl (.inl ⟨by rfl, fun W _ => by go_simp⟩) hH ?_
  change wpAnyH _ _ _ _ _ _ _ (Act.put _ (some 35) _) _
  simp only [Act.put, s0, s1, s2]
  refine wt (i := 19) (v := (.bool false)) rfl (.inl ⟨by rfl, fun W _ => by go_simp⟩) hH ?_
  change wpAnyH _ _ _ _ _ _ _ (Act.put _ (some 4) _) _
  simp only [Act.put, s0, s1, s2]
  refine wpAnyH_done (by kernel_rfl) ?_ _
  go_wp2
  go_ret
  exact ⟨rfl, DV3.out⟩
end
section
set_option maxRecDepth 10000
set_option maxHeartbeats 4000000
end
section
set_option maxRecDepth 10000
set_option maxHeartbeats 4000000
end
theorem eqH14 (x y : List UInt8) (hx : x.length = 32) (hy : y.length = 32) (W : World) : (Op.equalIn 10000 46 (.agg (hc x)) (.agg (hc y))).run Tryz.prog W = .ok (x == y) W :=
  eqC_bytes x y 32 hx hy 46 Tryz.underlying46 9998 W
section
set_option maxRecDepth 10000
set_option maxHeartbeats 4000000
end
end Go.Proofs.YtcoojkpimbddlaaGreatDoor
