/- The walk of TxPoints. -/
import Derived.Test.YtfldpejdpinppaaKxb
import Derived.Test.YtfldpejdpinppaaKxc
import Derived.Test.YtfldpejdpinppaaKr
namespace Go.Proofs.Ytfldpejdpinppaa
open Go.RowKit
open Go.Deep
set_option linter.unusedVariables false
section
set_option maxRecDepth 10000
set_option maxHeartbeats 4000000
theorem txPoints_walk (w : World) (m : Tm) (ai : Option Addr) (ci : Nat) (ao : Option Addr) (co : Nat) (hm : LT w m ai ci ao co) (hf : m.fit) (u : Tm) (bi : Option Addr) (di : Nat) (bo : Option Addr) (d0 : Nat) (hu : LT w u bi di bo d0) (hfu : u.fit) (id : Id32) : Calls Try.prog 5 #[.agg (m.cells ai ci ao co), .agg (u.cells bi di bo d0), .agg (hc id.1)] w fun r w' => r = .returned (.bool true) ∧ Below w.heap.size w w' := by
  obtain ⟨x0, x1, x2⟩ := blk3 w (.cells (m.cells ai ci ao co) 26) (.cells (u.cells bi di bo d0) 26) (.cells (hc id.1) 52)
  have b3 := below3 w (.cells (m.cells ai ci ao co) 26) (.cells (u.cells bi di bo d0) 26) (.cells (hc id.1) 52)
  have sz1 : (w.alloc (.cells (m.cells ai ci ao co) 26)).heap.size = w.heap.size + 1 := by simp
  have sz2 : ((w.alloc (.cells (m.cells ai ci ao co) 26)).alloc (.cells (u.cells bi di bo d0) 26)).heap.size = w.heap.size + 1 + 1 := by simp
  have HL := hide (hm.below b3)
  have HU := hide (hu.below b3)
  have B0 := hide b3
  have X0 := hide x0
  have X1 := hide x1
  have X2 := hide x2
  have HF := hide hf
  have HFU := hide hfu
  have ZT : Hid ((m.cells ai ci ao co).size = 4) := rfl
  have ZU : Hid ((u.cells bi di bo d0).size = 4) := rfl
  have HPo : Hid (∀ W, LT W m ai ci ao co → Calls Try.prog 19 #[.agg (m.cells ai ci ao co)] W fun e w' => ∃ (bi : Option Addr) (di : Nat), e = .returned (.slice bi m.ins.length di) ∧ LX KPt w' (.slice bi m.ins.length di) (m.ins.map Ti.pt) ∧ Below W.heap.size W w') := fun W h => points_any m ai ci ao co W h hf
  have HPa : Hid (∀ W, LT W m ai ci ao co → Calls Try.prog 20 #[.agg (hc id.1), .agg (m.cells ai ci ao co)] W fun e w' => ∃ (bi : Option Addr) (di : Nat), e = .returned (.slice bi m.outs.length di) ∧ LX KPt w' (.slice bi m.outs.length di) (pairL id m.outs.length) ∧ Below W.heap.size W w') := fun W h => pairs_any id m ai ci ao co W h hf
  have HSa : Hid (∀ W, LT W m ai ci ao co → LT W u bi di bo d0 → Calls Try.prog 21 #[.agg (m.cells ai ci ao co), .agg (u.cells bi di bo d0)] W fun r w' => r = .returned (.bool (decide (m = u))) ∧ Below W.heap.size W w') := fun W h1 h2 => same_any m u ai ci ao co bi di bo d0 W h1 h2 hf
  have HGm : Hid (∀ W, LT W m ai ci ao co → Calls Try.prog 11 #[.agg (m.cells ai ci ao co)] W fun e w' => ∃ (bi : Option Addr) (di : Nat) (bo : Option Addr) (d0 : Nat), e = .returned (.agg (m.cells bi di bo d0)) ∧ LR w' m bi di bo d0 ∧ Below W.heap.size W w') := fun W h => given_any m ai ci ao co W h hf
  have HGu : Hid (∀ W, LT W u bi di bo d0 → Calls Try.prog 11 #[.agg (u.cells bi di bo d0)] W fun e w' => ∃ (bi : Option Addr) (di : Nat) (bo : Option Addr) (d0 : Nat), e = .returned (.agg (u.cells bi di bo d0)) ∧ LR w' u bi di bo d0 ∧ Below W.heap.size W w') := fun W h => given_any u bi di bo d0 W h hfu
  have HSm : Hid (∀ W (p1 : Option Addr) (n1 : Nat) (p2 : Option Addr) (n2 : Nat) (p3 : Option Addr) (n3 : Nat) (p4 : Option Addr) (n4 : Nat), LR W m p1 n1 p2 n2 → LR W u p3 n3 p4 n4 → Calls Try.prog 10 #[.agg (m.cells p1 n1 p2 n2), .agg (u.cells p3 n3 p4 n4)] W fun r w' => r = .returned (.bool (decide (m = u))) ∧ Below W.heap.size W w') := fun W p1 n1 p2 n2 p3 n3 p4 n4 h1 h2 => lsame_any m u p1 n1 p2 n2 p3 n3 p4 n4 W h1 h2 hf
  have CTc : Hid (∀ W : World, W.heap[w.heap.size]? = some (.cells (m.cells ai ci ao co) 26 (0, 0)) → W.cell? ⟨w.heap.size, 1, none⟩ = some (.slice ai m.ins.length ci) ∧ W.cell? ⟨w.heap.size, 2, none⟩ = some (.slice ao m.outs.length co)) := fun W h => ⟨by rw [cell_of_row _ _ _ _ _ _ h]; rfl, by rw [cell_of_row _ _ _ _ _ _ h]; rfl⟩
  clear x0 x1 x2 b3 hm hf hu hfu
  generalize m.cells ai ci ao co = CT at *
  generalize u.cells bi di bo d0 = CU at *
  go_enter Try.func5, Try.ntmps5
  go_upto_region 1 with ((with_reducible refine at_list ?_); first | refine wpList_boxA rfl _ rfl CT rfl ?_ | refine wpList_boxA rfl _ rfl CU rfl ?_ | refine wpList_boxA rfl _ rfl (hc id.1) rfl ?_)
  try rw [sz1]
  try rw [sz2]
  clear sz1 sz2
  generalize ((w.alloc (.cells CT 26)).alloc (.cells CU 26)).alloc (.cells (hc id.1) 52) = W0 at *
  have RT : Hid (∀ W, Below W0.heap.size W0 W → W.heap[w.heap.size]? = some (.cells CT 26 (0, 0))) := fun W b => (b.block _ (lt_heap X0.out)).trans X0.out
  have RU : Hid (∀ W, Below W0.heap.size W0 W → W.heap[w.heap.size + 1]? = some (.cells CU 26 (0, 0))) := fun W b => (b.block _ (lt_heap X1.out)).trans X1.out
  have RI : Hid (∀ W, Below W0.heap.size W0 W → W.rangeAt (w.heap.size + 1 + 1) 0 (cellsL id.1)) := fun W b => rowAt _ ((b.block _ (lt_heap X2.out)).trans X2.out)
  clear X0 X1 X2
  have DV1 := hide ((Below.refl W0.heap.size W0).drew)
  refine wp_region_held_drew (S := fun W => Below W0.heap.size W0 W) (by kernel_rfl) DV1.out (fun hH => ?_)
  generalize hWd : W0.drew = V1 at *
  clear hWd
  refine wpAnyH_take (i := 0) (v := (.agg CT)) rfl (by kernel_rfl) (by kernel_rfl) (by kernel_rfl) (fun _ _ _ h => h) (yl_load (by rfl) _ (by rfl) _ CT (by rfl) (fun W hS => ld_row AT ZT.out (RT.out W hS))) hH ?_
  change wpAnyH _ _ _ _ _ _ _ (Act.put _ (some 13) _) _
  simp only [Act.put, List.setIfInBounds_toArray, List.set_cons_zero, List.set_cons_succ]
  refine wpAnyH_take (i := 2) (v := (.agg (hc id.1))) rfl (by kernel_rfl) (by kernel_rfl) (by kernel_rfl) (fun _ _ _ h => h) (yl_load (by rfl) _ (by rfl) _ (hc id.1) (by rfl) (fun W hS => ld_hash id.1 id.2 (RI.out W hS))) hH ?_
  change wpAnyH _ _ _ _ _ _ _ (Act.put _ (some 15) _) _
  simp only [Act.put, List.setIfInBounds_toArray, List.set_cons_zero, List.set_cons_succ]
  refine wpAnyH_take (i := 3) (v := (.agg CT)) rfl (by kernel_rfl) (by kernel_rfl) (by kernel_rfl) (fun _ _ _ h => h) (yl_load (by rfl) _ (by rfl) _ CT (by rfl) (fun W hS => ld_row AT ZT.out (RT.out W hS))) hH ?_
  change wpAnyH _ _ _ _ _ _ _ (Act.put _ (some 16) _) _
  simp only [Act.put, List.setIfInBounds_toArray, List.set_cons_zero, List.set_cons_succ]
  refine wpAnyH_ready (rs := [1]) (by kernel_rfl) (by simp) (AllReadyH.cons rfl (fun K1 hK1 => ?_) AllReadyH.nil)
  go_simp
  refine (HPo.out V1 (HL.out.below DV1.out)).mono ?_
  rintro r V2 ⟨pa, pn, rfl, lp, be⟩
  have DV2 := hide (below_next DV1.out be)
  have LP2 := hide lp
  clear be lp
  refine hK1.out _ _ DV2.out (fun hH => ?_)
  clear hK1
  refine wpAnyH_ready (rs := [4]) (by kernel_rfl) (by simp) (AllReadyH.cons rfl (fun K1 hK1 => ?_) AllReadyH.nil)
  go_simp
  refine (HPa.out V2 (HL.out.below DV2.out)).mono ?_
  rintro r V3 ⟨ka, kn, rfl, lk, be⟩
  have DV3 := hide (below_next DV2.out be)
  have LP3 := hide (LP2.out.below be)
  have LK3 := hide lk
  clear be lk LP2
  refine hK1.out _ _ DV3.out (fun hH => ?_)
  clear hK1
  refine wpAnyH_ready (rs := [5]) (by kernel_rfl) (by simp) (AllReadyH.cons rfl (fun K1 hK1 => ?_) AllReadyH.nil)
  go_simp
  refine hK1.out _ _ DV3.out (fun hH => ?_)
  clear hK1
  refine wpAnyH_ready (rs := [6]) (by kernel_rfl) (by simp) (AllReadyH.cons rfl (fun K1 hK1 => ?_) AllReadyH.nil)
  go_simp
  refine hK1.out _ _ DV3.out (fun hH => ?_)
  clear hK1
  refine wpAnyH_done (by kernel_rfl) ?_ _
  clear hH HPo HPa
  go_upto_region 2 with fail
  have LP : Hid (∀ W, Below V3.heap.size V3 W → LX KPt W (.slice pa m.ins.length pn) (m.ins.map Ti.pt)) := fun W b => LP3.out.below b
  have LK : Hid (∀ W, Below V3.heap.size V3 W → LX KPt W (.slice ka m.outs.length kn) (pairL id m.outs.length)) := fun W b => LK3.out.below b
  clear LP3 LK3
  have DV4 := hide ((Below.refl V3.heap.size V3).drew)
  refine wp_region_held_drew (S := fun W => Below V3.heap.size V3 W) (by kernel_rfl) DV4.out (fun hH => ?_)
  generalize hWd : V3.drew = V4 at *
  clear hWd
  refine wpAnyH_ready (rs := [0]) (by kernel_rfl) (by simp) (AllReadyH.cons rfl (fun K1 hK1 => ?_) AllReadyH.nil)
  go_simp
  refine (awake10 V4).mono ?_
  rintro r V5 ⟨rfl, be⟩
  have DV5 := hide (below_next DV4.out be)
  clear be
  refine hK1.out _ _ DV5.out (fun hH => ?_)
  clear hK1
  have n1 : ((m.ins.length : Int) != (m.ins.length : Int)) = false := by simp
  have n2 : ((m.outs.length : Int) != (m.outs.length : Int)) = false := by simp
  refine wpAnyH_take (i := 1) (v := (.bool false)) rfl (by kernel_rfl) (by kernel_rfl) (by kernel_rfl) (fun _ _ _ h => h) (.inl ⟨by rfl, fun W _ => by go_simp⟩) hH ?_
  change wpAnyH _ _ _ _ _ _ _ (Act.put _ (some 19) _) _
  simp only [Act.put, List.setIfInBounds_toArray, List.set_cons_zero, List.set_cons_succ]
  refine wpAnyH_take (i := 2) (v := (.bool false)) rfl (by kernel_rfl) (by kernel_rfl) (by kernel_rfl) (fun _ _ _ h => h) (yl_move (by rfl) _ (by rfl) _ (by rfl)) hH ?_
  change wpAnyH _ _ _ _ _ _ _ (Act.put _ (some 20) _) _
  simp only [Act.put, List.setIfInBounds_toArray, List.set_cons_zero, List.set_cons_succ]
  refine wpAnyH_take (i := 3) (v := (.slice pa m.ins.length pn)) rfl (by kernel_rfl) (by kernel_rfl) (by kernel_rfl) (fun _ _ _ h => h) (yl_move (by rfl) _ (by rfl) _ (by rfl)) hH ?_
  change wpAnyH _ _ _ _ _ _ _ (Act.put _ (some 21) _) _
  simp only [Act.put, List.setIfInBounds_toArray, List.set_cons_zero, List.set_cons_succ]
  refine wpAnyH_take (i := 4) (v := (.int .i64 (m.ins.length : Int))) rfl (by kernel_rfl) (by kernel_rfl) (by kernel_rfl) (fun _ _ _ h => h) (.inl ⟨by rfl, fun W _ => by go_simp⟩) hH ?_
  change wpAnyH _ _ _ _ _ _ _ (Act.put _ (some 22) _) _
  simp only [Act.put, List.setIfInBounds_toArray, List.set_cons_zero, List.set_cons_succ]
  refine wpAnyH_take (i := 5) (v := (.pointer (some ⟨w.heap.size, 1, none⟩))) rfl (by kernel_rfl) (by kernel_rfl) (by kernel_rfl) (fun _ _ _ h => h) (.inl ⟨by rfl, fun W _ => by go_simp⟩) hH ?_
  change wpAnyH _ _ _ _ _ _ _ (Act.put _ (some 23) _) _
  simp only [Act.put, List.setIfInBounds_toArray, List.set_cons_zero, List.set_cons_succ]
  refine wpAnyH_take (i := 6) (v := (.slice ai m.ins.length ci)) rfl (by kernel_rfl) (by kernel_rfl) (by kernel_rfl) (fun _ _ _ h => h) (.inl ⟨by rfl, fun W hS => by have c4 := (CTc.out W (RT.out W (below_next DV3.out hS))).1; go_simp⟩) hH ?_
  change wpAnyH _ _ _ _ _ _ _ (Act.put _ (some 24) _) _
  simp only [Act.put, List.setIfInBounds_toArray, List.set_cons_zero, List.set_cons_succ]
  refine wpAnyH_take (i := 7) (v := (.int .i64 (m.ins.length : Int))) rfl (by kernel_rfl) (by kernel_rfl) (by kernel_rfl) (fun _ _ _ h => h) (.inl ⟨by rfl, fun W _ => by go_simp⟩) hH ?_
  change wpAnyH _ _ _ _ _ _ _ (Act.put _ (some 25) _) _
  simp only [Act.put, List.setIfInBounds_toArray, List.set_cons_zero, List.set_cons_succ]
  refine wpAnyH_take (i := 8) (v := (.bool false)) rfl (by kernel_rfl) (by kernel_rfl) (by kernel_rfl) (fun _ _ _ h => h) (.inl ⟨by rfl, fun W _ => by go_simp⟩) hH ?_
  change wpAnyH _ _ _ _ _ _ _ (Act.put _ (some 26) _) _
  simp only [Act.put, List.setIfInBounds_toArray, List.set_cons_zero, List.set_cons_succ]
  refine wpAnyH_take (i := 9) (v := (.bool false)) rfl (by kernel_rfl) (by kernel_rfl) (by kernel_rfl) (fun _ _ _ h => h) (.inl ⟨by rfl, fun W _ => by go_simp⟩) hH ?_
  change wpAnyH _ _ _ _ _ _ _ (Act.put _ (some 27) _) _
  simp only [Act.put, List.setIfInBounds_toArray, List.set_cons_zero, List.set_cons_succ]
  refine wpAnyH_take (i := 10) (v := (.bool false)) rfl (by kernel_rfl) (by kernel_rfl) (by kernel_rfl) (fun _ _ _ h => h) (yl_move (by rfl) _ (by rfl) _ (by rfl)) hH ?_
  change wpAnyH _ _ _ _ _ _ _ (Act.put _ (some 28) _) _
  simp only [Act.put, List.setIfInBounds_toArray, List.set_cons_zero, List.set_cons_succ]
  refine wpAnyH_take (i := 11) (v := (.slice ka m.outs.length kn)) rfl (by kernel_rfl) (by kernel_rfl) (by kernel_rfl) (fun _ _ _ h => h) (yl_move (by rfl) _ (by rfl) _ (by rfl)) hH ?_
  change wpAnyH _ _ _ _ _ _ _ (Act.put _ (some 29) _) _
  simp only [Act.put, List.setIfInBounds_toArray, List.set_cons_zero, List.set_cons_succ]
  refine wpAnyH_take (i := 12) (v := (.int .i64 (m.outs.length : Int))) rfl (by kernel_rfl) (by kernel_rfl) (by kernel_rfl) (fun _ _ _ h => h) (.inl ⟨by rfl, fun W _ => by go_simp⟩) hH ?_
  change wpAnyH _ _ _ _ _ _ _ (Act.put _ (some 30) _) _
  simp only [Act.put, List.setIfInBounds_toArray, List.set_cons_zero, List.set_cons_succ]
  refine wpAnyH_take (i := 13) (v := (.pointer (some ⟨w.heap.size, 2, none⟩))) rfl (by kernel_rfl) (by kernel_rfl) (by kernel_rfl) (fun _ _ _ h => h) (.inl ⟨by rfl, fun W _ => by go_simp⟩) hH ?_
  change wpAnyH _ _ _ _ _ _ _ (Act.put _ (some 31) _) _
  simp only [Act.put, List.setIfInBounds_toArray, List.set_cons_zero, List.set_cons_succ]
  refine wpAnyH_take (i := 14) (v := (.slice ao m.outs.length co)) rfl (by kernel_rfl) (by kernel_rfl) (by kernel_rfl) (fun _ _ _ h => h) (.inl ⟨by rfl, fun W hS => by have c4 := (CTc.out W (RT.out W (below_next DV3.out hS))).2; go_simp⟩) hH ?_
  change wpAnyH _ _ _ _ _ _ _ (Act.put _ (some 32) _) _
  simp only [Act.put, List.setIfInBounds_toArray, List.set_cons_zero, List.set_cons_succ]
  refine wpAnyH_take (i := 15) (v := (.int .i64 (m.outs.length : Int))) rfl (by kernel_rfl) (by kernel_rfl) (by kernel_rfl) (fun _ _ _ h => h) (.inl ⟨by rfl, fun W _ => by go_simp⟩) hH ?_
  change wpAnyH _ _ _ _ _ _ _ (Act.put _ (some 33) _) _
  simp only [Act.put, List.setIfInBounds_toArray, List.set_cons_zero, List.set_cons_succ]
  refine wpAnyH_take (i := 16) (v := (.bool false)) rfl (by kernel_rfl) (by kernel_rfl) (by kernel_rfl) (fun _ _ _ h => h) (.inl ⟨by rfl, fun W _ => by go_simp⟩) hH ?_
  change wpAnyH _ _ _ _ _ _ _ (Act.put _ (some 34) _) _
  simp only [Act.put, List.setIfInBounds_toArray, List.set_cons_zero, List.set_cons_succ]
  refine wpAnyH_take (i := 17) (v := (.bool false)) rfl (by kernel_rfl) (by kernel_rfl) (by kernel_rfl) (fun _ _ _ h => h) (.inl ⟨by rfl, fun W _ => by go_simp⟩) hH ?_
  change wpAnyH _ _ _ _ _ _ _ (Act.put _ (some 35) _) _
  simp only [Act.put, List.setIfInBounds_toArray, List.set_cons_zero, List.set_cons_succ]
  refine wpAnyH_take (i := 18) (v := (.bool false)) rfl (by kernel_rfl) (by kernel_rfl) (by kernel_rfl) (fun _ _ _ h => h) (yl_move (by rfl) _ (by rfl) _ (by rfl)) hH ?_
  change wpAnyH _ _ _ _ _ _ _ (Act.put _ (some 36) _) _
  simp only [Act.put, List.setIfInBounds_toArray, List.set_cons_zero, List.set_cons_succ]
  refine wpAnyH_take (i := 19) (v := (.agg CT)) rfl (by kernel_rfl) (by kernel_rfl) (by kernel_rfl) (fun _ _ _ h => h) (yl_load (by rfl) _ (by rfl) _ CT (by rfl) (fun W hS => ld_row AT ZT.out (RT.out W (below_next DV3.out hS)))) hH ?_
  change wpAnyH _ _ _ _ _ _ _ (Act.put _ (some 37) _) _
  simp only [Act.put, List.setIfInBounds_toArray, List.set_cons_zero, List.set_cons_succ]
  refine wpAnyH_take (i := 20) (v := (.agg CU)) rfl (by kernel_rfl) (by kernel_rfl) (by kernel_rfl) (fun _ _ _ h => h) (yl_load (by rfl) _ (by rfl) _ CU (by rfl) (fun W hS => ld_row AT ZU.out (RU.out W (below_next DV3.out hS)))) hH ?_
  change wpAnyH _ _ _ _ _ _ _ (Act.put _ (some 38) _) _
  simp only [Act.put, List.setIfInBounds_toArray, List.set_cons_zero, List.set_cons_succ]
  refine wpAnyH_take (i := 22) (v := (.agg CT)) rfl (by kernel_rfl) (by kernel_rfl) (by kernel_rfl) (fun _ _ _ h => h) (yl_load (by rfl) _ (by rfl) _ CT (by rfl) (fun W hS => ld_row AT ZT.out (RT.out W (below_next DV3.out hS)))) hH ?_
  change wpAnyH _ _ _ _ _ _ _ (Act.put _ (some 40) _) _
  simp only [Act.put, List.setIfInBounds_toArray, List.set_cons_zero, List.set_cons_succ]
  refine wpAnyH_take (i := 24) (v := (.agg CU)) rfl (by kernel_rfl) (by kernel_rfl) (by kernel_rfl) (fun _ _ _ h => h) (yl_load (by rfl) _ (by rfl) _ CU (by rfl) (fun W hS => ld_row AT ZU.out (RU.out W (below_next DV3.out hS)))) hH ?_
  change wpAnyH _ _ _ _ _ _ _ (Act.put _ (some 42) _) _
  simp only [Act.put, List.setIfInBounds_toArray, List.set_cons_zero, List.set_cons_succ]
  refine wpAnyH_ready (rs := [21]) (by kernel_rfl) (by simp) (AllReadyH.cons rfl (fun K1 hK1 => ?_) AllReadyH.nil)
  go_simp
  refine (HSa.out V5 (HL.out.below (below_next DV3.out DV5.out)) (HU.out.below (below_next DV3.out DV5.out))).mono ?_
  rintro r V6 ⟨rfl, be⟩
  have DV6 := hide (below_next DV5.out be)
  clear be
  refine hK1.out _ _ DV6.out (fun hH => ?_)
  clear hK1
  refine wpAnyH_ready (rs := [23]) (by kernel_rfl) (by simp) (AllReadyH.cons rfl (fun K1 hK1 => ?_) AllReadyH.nil)
  go_simp
  refine (HGm.out V6 (HL.out.below (below_next DV3.out DV6.out))).mono ?_
  rintro r V7 ⟨p1, o1, p2, o2, rfl, lr1, be⟩
  have DV7 := hide (below_next DV6.out be)
  have LR7 := hide lr1
  clear be lr1
  refine hK1.out _ _ DV7.out (fun hH => ?_)
  clear hK1
  refine wpAnyH_ready (rs := [25]) (by kernel_rfl) (by simp) (AllReadyH.cons rfl (fun K1 hK1 => ?_) AllReadyH.nil)
  go_simp
  refine (HGu.out V7 (HU.out.below (below_next DV3.out DV7.out))).mono ?_
  rintro r V8 ⟨p3, o3, p4, o4, rfl, lr2, be⟩
  have DV8 := hide (below_next DV7.out be)
  have LR8 := hide (And.intro (LR7.out.below be) lr2)
  clear be lr2 LR7
  refine hK1.out _ _ DV8.out (fun hH => ?_)
  clear hK1
  refine wpAnyH_ready (rs := [26]) (by kernel_rfl) (by simp) (AllReadyH.cons rfl (fun K1 hK1 => ?_) AllReadyH.nil)
  go_simp
  refine (HSm.out V8 p1 o1 p2 o2 p3 o3 p4 o4 LR8.out.1 LR8.out.2).mono ?_
  rintro r V9 ⟨rfl, be⟩
  have DV9 := hide (below_next DV8.out be)
  clear be
  refine hK1.out _ _ DV9.out (fun hH => ?_)
  clear hK1
  have n3 : (decide (m = u) != decide (m = u)) = false := by simp
  refine wpAnyH_take (i := 27) (v := (.bool false)) rfl (by kernel_rfl) (by kernel_rfl) (by kernel_rfl) (fun _ _ _ h => h) (.inl ⟨by rfl, fun W _ => by go_simp⟩) hH ?_
  change wpAnyH _ _ _ _ _ _ _ (Act.put _ (some 45) _) _
  simp only [Act.put, List.setIfInBounds_toArray, List.set_cons_zero, List.set_cons_succ]
  refine wpAnyH_take (i := 28) (v := (.bool false)) rfl (by kernel_rfl) (by kernel_rfl) (by kernel_rfl) (fun _ _ _ h => h) (.inl ⟨by rfl, fun W _ => by go_simp⟩) hH ?_
  change wpAnyH _ _ _ _ _ _ _ (Act.put _ (some 46) _) _
  simp only [Act.put, List.setIfInBounds_toArray, List.set_cons_zero, List.set_cons_succ]
  refine wpAnyH_done (by kernel_rfl) ?_ _
  clear hH n1 n2 n3 LR8 HSm HGm HGu HSa HU RU ZU ZT HFU
  generalize decide (m = u) = dmu at *
  go_upto_region 5 with fail
  go_loopw [49] (fun i wr => ∃ k : Nat, k ≤ m.ins.length ∧ i = .int .i64 (k : Int) ∧ Hid (Below V3.heap.size V3 wr)) (fun i _ => (m.ins.length - intOf i).toNat)
  case atStart => exact ⟨0, Nat.zero_le _, rfl, DV9.out⟩
  case round =>
    obtain ⟨k, hk, rfl, J⟩ := hrel
    by_cases hlt : k < m.ins.length
    · have h1 : (k : Int) < (m.ins.length : Int) := by omega
      have h2 : (0 : Int) ≤ (k : Int) := by omega
      have h6 : (0 : Int) < (m.ins.length : Int) := by omega
      have h7 : ¬ m.ins = [] := fun h => by rw [h] at hlt; simp at hlt
      have h5 := HF.out.i
      have e1 : IntKind.i64.wrap ((k : Int) + 1) = k + 1 := wrapI _ (by omega) (by omega)
      have KK := hide (And.intro (show k + 1 ≤ m.ins.length by omega) (show ((m.ins.length : Int) - ((k : Int) + 1)).toNat < ((m.ins.length : Int) - (k : Int)).toNat by omega))
      obtain ⟨ga, oa, hga⟩ := HL.out.i.base (by omega)
      subst hga
      obtain ⟨gp, op, hgp⟩ := (LP.out _ J.out).base (by rw [List.length_map]; omega)
      subst hgp
      have RG : Hid (∀ W, Below V3.heap.size V3 W → W.rangeAt ga (oa + k * 35) m.ins[k].pt.cells) := fun W b => m.ins[k].ptAt ((HL.out.below (below_next DV3.out b)).i.range k hlt)
      have RP : Hid (∀ W, Below V3.heap.size V3 W → W.rangeAt gp (op + k * 33) m.ins[k].pt.cells) := fun W b => by
        have := (LP.out W b).range k (by rw [List.length_map]; exact hlt)
        rw [List.getElem_map] at this
        exact this
      have RZ : Hid (∀ W, Below V3.heap.size V3 W → W.rangeAt gp op m.ins[0].pt.cells) := fun W b => by
        have := (LP.out W b).range 0 (by rw [List.length_map]; omega)
        rw [List.getElem_map, Nat.zero_mul, Nat.add_zero] at this
        exact this
      generalize m.ins[k].pt = x at *
      generalize m.ins[0].pt = y at *
      clear hk hlt h5
      go_upto_region 7 with ((with_reducible refine at_list ?_); first | refine wpLoadP _ rfl gp (op + k * 33) rfl x (RP.out _ J.out) (by rfl) ?_ | refine wpList_allocA APt rfl rfl ?_ | refine wpList_store_newA APt rfl _ _ rfl _ rfl x.cells.toArray x.size x.all rfl rfl ?_)
      have J2 := hide (below_next J.out ((Below.refl _ _).alloc (Nat.le_refl _) (.cells x.cells.toArray 58)))
      have RX := hide (heap_alloc_last wr (.cells x.cells.toArray 58))
      clear J
      generalize wr.alloc (.cells x.cells.toArray 58) = U0 at *
      generalize wr.heap.size = g10 at *
      have LX0 : Hid (∀ W, Below U0.heap.size U0 W → W.heap[g10]? = some (.cells x.cells.toArray 58 (0, 0))) := fun W b => (b.block _ (lt_heap RX.out)).trans RX.out
      have EQ := hide (fun W => eqPt fp_api 9997 x x W)
      rw [decide_eq_true rfl] at EQ
      have DU1 := hide ((Below.refl U0.heap.size U0).drew)
      refine wp_region_held_drew (S := fun W => Below U0.heap.size U0 W) (by kernel_rfl) DU1.out (fun hH => ?_)
      generalize hWd : U0.drew = U1 at *
      clear hWd
      refine wpAnyH_take (i := 0) (v := (.agg x.cells.toArray)) rfl (by kernel_rfl) (by kernel_rfl) (by kernel_rfl) (fun _ _ _ h => h) (yl_load (by rfl) _ (by rfl) _ x.cells.toArray (by rfl) (fun W hS => ld_row APt x.size (LX0.out W hS))) hH ?_
      change wpAnyH _ _ _ _ _ _ _ (Act.put _ (some 54) _) _
      simp only [Act.put, List.setIfInBounds_toArray, List.set_cons_zero, List.set_cons_succ]
      refine wpAnyH_take (i := 1) (v := (.pointer (some ⟨w.heap.size, 1, none⟩))) rfl (by kernel_rfl) (by kernel_rfl) (by kernel_rfl) (fun _ _ _ h => h) (.inl ⟨by rfl, fun W _ => by go_simp⟩) hH ?_
      change wpAnyH _ _ _ _ _ _ _ (Act.put _ (some 55) _) _
      simp only [Act.put, List.setIfInBounds_toArray, List.set_cons_zero, List.set_cons_succ]
      refine wpAnyH_take (i := 2) (v := (.slice (some ⟨ga, oa, none⟩) m.ins.length ci)) rfl (by kernel_rfl) (by kernel_rfl) (by kernel_rfl) (fun _ _ _ h => h) (.inl ⟨by rfl, fun W hS => by have c4 := (CTc.out W (RT.out W (below_next DV3.out (below_next J2.out hS)))).1; go_simp⟩) hH ?_
      change wpAnyH _ _ _ _ _ _ _ (Act.put _ (some 56) _) _
      simp only [Act.put, List.setIfInBounds_toArray, List.set_cons_zero, List.set_cons_succ]
      refine wpAnyH_take (i := 3) (v := (.int .i64 (k : Int))) rfl (by kernel_rfl) (by kernel_rfl) (by kernel_rfl) (fun _ _ _ h => h) (yl_move (by rfl) _ (by rfl) _ (by rfl)) hH ?_
      change wpAnyH _ _ _ _ _ _ _ (Act.put _ (some 57) _) _
      simp only [Act.put, List.setIfInBounds_toArray, List.set_cons_zero, List.set_cons_succ]
      refine wpAnyH_take (i := 4) (v := (.pointer (some ⟨ga, oa + k * 35, none⟩))) rfl (by kernel_rfl) (by kernel_rfl) (by kernel_rfl) (fun _ _ _ h => h) (.inl ⟨by rfl, fun W _ => by go_simp⟩) hH ?_
      change wpAnyH _ _ _ _ _ _ _ (Act.put _ (some 58) _) _
      simp only [Act.put, List.setIfInBounds_toArray, List.set_cons_zero, List.set_cons_succ]
      refine wpAnyH_take (i := 5) (v := (.pointer (some ⟨ga, oa + k * 35, none⟩))) rfl (by kernel_rfl) (by kernel_rfl) (by kernel_rfl) (fun _ _ _ h => h) (.inl ⟨by rfl, fun W _ => by go_simp⟩) hH ?_
      change wpAnyH _ _ _ _ _ _ _ (Act.put _ (some 59) _) _
      simp only [Act.put, List.setIfInBounds_toArray, List.set_cons_zero, List.set_cons_succ]
      refine wpAnyH_take (i := 6) (v := (.agg x.cells.toArray)) rfl (by kernel_rfl) (by kernel_rfl) (by kernel_rfl) (fun _ _ _ h => h) (yl_load (by rfl) _ (by rfl) _ x.cells.toArray (by rfl) (fun W hS => KPt.load x Try.underlying58 rfl (RG.out W (below_next J2.out hS)))) hH ?_
      change wpAnyH _ _ _ _ _ _ _ (Act.put _ (some 60) _) _
      simp only [Act.put, List.setIfInBounds_toArray, List.set_cons_zero, List.set_cons_succ]
      refine wpAnyH_take (i := 7) (v := (.bool false)) rfl (by kernel_rfl) (by kernel_rfl) (by kernel_rfl) (fun _ _ _ h => h) (yl_neqX (by rfl) 58 _ _ _ (by rfl) x.cells.toArray x.cells.toArray (by rfl) (by rfl) (by kernel_rfl) true EQ.out) hH ?_
      change wpAnyH _ _ _ _ _ _ _ (Act.put _ (some 61) _) _
      simp only [Act.put, List.setIfInBounds_toArray, List.set_cons_zero, List.set_cons_succ]
      refine wpAnyH_take (i := 8) (v := (.bool false)) rfl (by kernel_rfl) (by kernel_rfl) (by kernel_rfl) (fun _ _ _ h => h) (yl_move (by rfl) _ (by rfl) _ (by rfl)) hH ?_
      change wpAnyH _ _ _ _ _ _ _ (Act.put _ (some 62) _) _
      simp only [Act.put, List.setIfInBounds_toArray, List.set_cons_zero, List.set_cons_succ]
      refine wpAnyH_take (i := 9) (v := (.slice (some ⟨gp, op, none⟩) m.ins.length pn)) rfl (by kernel_rfl) (by kernel_rfl) (by kernel_rfl) (fun _ _ _ h => h) (yl_move (by rfl) _ (by rfl) _ (by rfl)) hH ?_
      change wpAnyH _ _ _ _ _ _ _ (Act.put _ (some 63) _) _
      simp only [Act.put, List.setIfInBounds_toArray, List.set_cons_zero, List.set_cons_succ]
      refine wpAnyH_take (i := 10) (v := (.pointer (some ⟨gp, op, none⟩))) rfl (by kernel_rfl) (by kernel_rfl) (by kernel_rfl) (fun _ _ _ h => h) (.inl ⟨by rfl, fun W _ => by go_simp⟩) hH ?_
      change wpAnyH _ _ _ _ _ _ _ (Act.put _ (some 64) _) _
      simp only [Act.put, List.setIfInBounds_toArray, List.set_cons_zero, List.set_cons_succ]
      refine wpAnyH_take (i := 11) (v := (.agg y.cells.toArray)) rfl (by kernel_rfl) (by kernel_rfl) (by kernel_rfl) (fun _ _ _ h => h) (yl_load (by rfl) _ (by rfl) _ y.cells.toArray (by rfl) (fun W hS => KPt.load y Try.underlying58 rfl (RZ.out W (below_next J2.out hS)))) hH ?_
      change wpAnyH _ _ _ _ _ _ _ (Act.put _ (some 65) _) _
      simp only [Act.put, List.setIfInBounds_toArray, List.set_cons_zero, List.set_cons_succ]
      refine wpAnyH_take (i := 12) (v := (.agg x.cells.toArray)) rfl (by kernel_rfl) (by kernel_rfl) (by kernel_rfl) (fun _ _ _ h => h) (yl_load (by rfl) _ (by rfl) _ x.cells.toArray (by rfl) (fun W hS => ld_row APt x.size (LX0.out W hS))) hH ?_
      change wpAnyH _ _ _ _ _ _ _ (Act.put _ (some 66) _) _
      simp only [Act.put, List.setIfInBounds_toArray, List.set_cons_zero, List.set_cons_succ]
      refine wpAnyH_take (i := 14) (v := (.slice (some ⟨gp, op, none⟩) m.ins.length pn)) rfl (by kernel_rfl) (by kernel_rfl) (by kernel_rfl) (fun _ _ _ h => h) (yl_move (by rfl) _ (by rfl) _ (by rfl)) hH ?_
      change wpAnyH _ _ _ _ _ _ _ (Act.put _ (some 68) _) _
      simp only [Act.put, List.setIfInBounds_toArray, List.set_cons_zero, List.set_cons_succ]
      refine wpAnyH_take (i := 15) (v := (.pointer (some ⟨gp, op, none⟩))) rfl (by kernel_rfl) (by kernel_rfl) (by kernel_rfl) (fun _ _ _ h => h) (.inl ⟨by rfl, fun W _ => by go_simp⟩) hH ?_
      change wpAnyH _ _ _ _ _ _ _ (Act.put _ (some 69) _) _
      simp only [Act.put, List.setIfInBounds_toArray, List.set_cons_zero, List.set_cons_succ]
      refine wpAnyH_take (i := 16) (v := (.agg y.cells.toArray)) rfl (by kernel_rfl) (by kernel_rfl) (by kernel_rfl) (fun _ _ _ h => h) (yl_load (by rfl) _ (by rfl) _ y.cells.toArray (by rfl) (fun W hS => KPt.load y Try.underlying58 rfl (RZ.out W (below_next J2.out hS)))) hH ?_
      change wpAnyH _ _ _ _ _ _ _ (Act.put _ (some 70) _) _
      simp only [Act.put, List.setIfInBounds_toArray, List.set_cons_zero, List.set_cons_succ]
      refine wpAnyH_take (i := 17) (v := (.agg x.cells.toArray)) rfl (by kernel_rfl) (by kernel_rfl) (by kernel_rfl) (fun _ _ _ h => h) (yl_load (by rfl) _ (by rfl) _ x.cells.toArray (by rfl) (fun W hS => ld_row APt x.size (LX0.out W hS))) hH ?_
      change wpAnyH _ _ _ _ _ _ _ (Act.put _ (some 71) _) _
      simp only [Act.put, List.setIfInBounds_toArray, List.set_cons_zero, List.set_cons_succ]
      refine wpAnyH_ready (rs := [13]) (by kernel_rfl) (by simp) (AllReadyH.cons rfl (fun K1 hK1 => ?_) AllReadyH.nil)
      go_simp
      refine (less_any y x U1).mono ?_
      rintro r U2 ⟨rfl, be⟩
      have DU2 := hide (below_next DU1.out be)
      clear be
      refine hK1.out _ _ DU2.out (fun hH => ?_)
      clear hK1
      refine wpAnyH_ready (rs := [18]) (by kernel_rfl) (by simp) (AllReadyH.cons rfl (fun K1 hK1 => ?_) AllReadyH.nil)
      go_simp
      refine (lless_any y x U2).mono ?_
      rintro r U3 ⟨rfl, be⟩
      have DU3 := hide (below_next DU2.out be)
      clear be
      refine hK1.out _ _ DU3.out (fun hH => ?_)
      clear hK1
      have n1 : (lessB y x != lessB y x) = false := by simp
      refine wpAnyH_take (i := 19) (v := (.bool false)) rfl (by kernel_rfl) (by kernel_rfl) (by kernel_rfl) (fun _ _ _ h => h) (.inl ⟨by rfl, fun W _ => by go_simp⟩) hH ?_
      change wpAnyH _ _ _ _ _ _ _ (Act.put _ (some 73) _) _
      simp only [Act.put, List.setIfInBounds_toArray, List.set_cons_zero, List.set_cons_succ]
      refine wpAnyH_take (i := 20) (v := (.bool false)) rfl (by kernel_rfl) (by kernel_rfl) (by kernel_rfl) (fun _ _ _ h => h) (.inl ⟨by rfl, fun W _ => by go_simp⟩) hH ?_
      change wpAnyH _ _ _ _ _ _ _ (Act.put _ (some 74) _) _
      simp only [Act.put, List.setIfInBounds_toArray, List.set_cons_zero, List.set_cons_succ]
      refine wpAnyH_take (i := 21) (v := (.bool false)) rfl (by kernel_rfl) (by kernel_rfl) (by kernel_rfl) (fun _ _ _ h => h) (yl_move (by rfl) _ (by rfl) _ (by rfl)) hH ?_
      change wpAnyH _ _ _ _ _ _ _ (Act.put _ (some 75) _) _
      simp only [Act.put, List.setIfInBounds_toArray, List.set_cons_zero, List.set_cons_succ]
      refine wpAnyH_take (i := 22) (v := (.agg x.cells.toArray)) rfl (by kernel_rfl) (by kernel_rfl) (by kernel_rfl) (fun _ _ _ h => h) (yl_load (by rfl) _ (by rfl) _ x.cells.toArray (by rfl) (fun W hS => ld_row APt x.size (LX0.out W hS))) hH ?_
      change wpAnyH _ _ _ _ _ _ _ (Act.put _ (some 76) _) _
      simp only [Act.put, List.setIfInBounds_toArray, List.set_cons_zero, List.set_cons_succ]
      refine wpAnyH_take (i := 23) (v := (.slice (some ⟨gp, op, none⟩) m.ins.length pn)) rfl (by kernel_rfl) (by kernel_rfl) (by kernel_rfl) (fun _ _ _ h => h) (yl_move (by rfl) _ (by rfl) _ (by rfl)) hH ?_
      change wpAnyH _ _ _ _ _ _ _ (Act.put _ (some 77) _) _
      simp only [Act.put, List.setIfInBounds_toArray, List.set_cons_zero, List.set_cons_succ]
      refine wpAnyH_take (i := 24) (v := (.pointer (some ⟨gp, op, none⟩))) rfl (by kernel_rfl) (by kernel_rfl) (by kernel_rfl) (fun _ _ _ h => h) (.inl ⟨by rfl, fun W _ => by go_simp⟩) hH ?_
      change wpAnyH _ _ _ _ _ _ _ (Act.put _ (some 78) _) _
      simp only [Act.put, List.setIfInBounds_toArray, List.set_cons_zero, List.set_cons_succ]
      refine wpAnyH_take (i := 25) (v := (.agg y.cells.toArray)) rfl (by kernel_rfl) (by kernel_rfl) (by kernel_rfl) (fun _ _ _ h => h) (yl_load (by rfl) _ (by rfl) _ y.cells.toArray (by rfl) (fun W hS => KPt.load y Try.underlying58 rfl (RZ.out W (below_next J2.out hS)))) hH ?_
      change wpAnyH _ _ _ _ _ _ _ (Act.put _ (some 79) _) _
      simp only [Act.put, List.setIfInBounds_toArray, List.set_cons_zero, List.set_cons_succ]
      refine wpAnyH_take (i := 27) (v := (.agg x.cells.toArray)) rfl (by kernel_rfl) (by kernel_rfl) (by kernel_rfl) (fun _ _ _ h => h) (yl_load (by rfl) _ (by rfl) _ x.cells.toArray (by rfl) (fun W hS => ld_row APt x.size (LX0.out W hS))) hH ?_
      change wpAnyH _ _ _ _ _ _ _ (Act.put _ (some 81) _) _
      simp only [Act.put, List.setIfInBounds_toArray, List.set_cons_zero, List.set_cons_succ]
      refine wpAnyH_take (i := 28) (v := (.slice (some ⟨gp, op, none⟩) m.ins.length pn)) rfl (by kernel_rfl) (by kernel_rfl) (by kernel_rfl) (fun _ _ _ h => h) (yl_move (by rfl) _ (by rfl) _ (by rfl)) hH ?_
      change wpAnyH _ _ _ _ _ _ _ (Act.put _ (some 82) _) _
      simp only [Act.put, List.setIfInBounds_toArray, List.set_cons_zero, List.set_cons_succ]
      refine wpAnyH_take (i := 29) (v := (.pointer (some ⟨gp, op, none⟩))) rfl (by kernel_rfl) (by kernel_rfl) (by kernel_rfl) (fun _ _ _ h => h) (.inl ⟨by rfl, fun W _ => by go_simp⟩) hH ?_
      change wpAnyH _ _ _ _ _ _ _ (Act.put _ (some 83) _) _
      simp only [Act.put, List.setIfInBounds_toArray, List.set_cons_zero, List.set_cons_succ]
      refine wpAnyH_take (i := 30) (v := (.agg y.cells.toArray)) rfl (by kernel_rfl) (by kernel_rfl) (by kernel_rfl) (fun _ _ _ h => h) (yl_load (by rfl) _ (by rfl) _ y.cells.toArray (by rfl) (fun W hS => KPt.load y Try.underlying58 rfl (RZ.out W (below_next J2.out hS)))) hH ?_
      change wpAnyH _ _ _ _ _ _ _ (Act.put _ (some 84) _) _
      simp only [Act.put, List.setIfInBounds_toArray, List.set_cons_zero, List.set_cons_succ]
      refine wpAnyH_ready (rs := [26]) (by kernel_rfl) (by simp) (AllReadyH.cons rfl (fun K1 hK1 => ?_) AllReadyH.nil)
      go_simp
      refine (less_any x y U3).mono ?_
      rintro r U4 ⟨rfl, be⟩
      have DU4 := hide (below_next DU3.out be)
      clear be
      refine hK1.out _ _ DU4.out (fun hH => ?_)
      clear hK1
      refine wpAnyH_ready (rs := [31]) (by kernel_rfl) (by simp) (AllReadyH.cons rfl (fun K1 hK1 => ?_) AllReadyH.nil)
      go_simp
      refine (lless_any x y U4).mono ?_
      rintro r U5 ⟨rfl, be⟩
      have DU5 := hide (below_next DU4.out be)
      clear be
      refine hK1.out _ _ DU5.out (fun hH => ?_)
      clear hK1
      have n2 : (lessB x y != lessB x y) = false := by simp
      refine wpAnyH_take (i := 32) (v := (.bool false)) rfl (by kernel_rfl) (by kernel_rfl) (by kernel_rfl) (fun _ _ _ h => h) (.inl ⟨by rfl, fun W _ => by go_simp⟩) hH ?_
      change wpAnyH _ _ _ _ _ _ _ (Act.put _ (some 86) _) _
      simp only [Act.put, List.setIfInBounds_toArray, List.set_cons_zero, List.set_cons_succ]
      refine wpAnyH_take (i := 33) (v := (.bool false)) rfl (by kernel_rfl) (by kernel_rfl) (by kernel_rfl) (fun _ _ _ h => h) (.inl ⟨by rfl, fun W _ => by go_simp⟩) hH ?_
      change wpAnyH _ _ _ _ _ _ _ (Act.put _ (some 87) _) _
      simp only [Act.put, List.setIfInBounds_toArray, List.set_cons_zero, List.set_cons_succ]
      refine wpAnyH_done (by kernel_rfl) ?_ _
      clear hH n1 n2
      go_wp2
      exact ⟨⟨k + 1, KK.out.1, by go_num, below_next J2.out DU5.out⟩, by simpa [intOf] using KK.out.2⟩
    · have h1 : ¬ (k : Int) < (m.ins.length : Int) := by omega
      clear hk hlt
      go_upto_region 11 with fail
      clear h1
      go_loopw [91] (fun i wr => ∃ k : Nat, k ≤ m.outs.length ∧ i = .int .i64 (k : Int) ∧ Hid (Below V3.heap.size V3 wr)) (fun i _ => (m.outs.length - intOf i).toNat)
      case atStart => exact ⟨0, Nat.zero_le _, rfl, J.out⟩
      case round =>
        clear J
        obtain ⟨k, hk, rfl, J⟩ := hrel
        by_cases hlt : k < m.outs.length
        · have h1 : (k : Int) < (m.outs.length : Int) := by omega
          have h2 : (0 : Int) ≤ (k : Int) := by omega
          have h5 := HF.out.o
          have e1 : IntKind.i64.wrap ((k : Int) + 1) = k + 1 := wrapI _ (by omega) (by omega)
          have e2 : IntKind.u32.wrap (k : Int) = ((UInt32.ofNat k).toNat : Int) := by rw [IntKind.wrap_u32, UInt32.toNat_ofNat']; omega
          have KK := hide (And.intro (show k + 1 ≤ m.outs.length by omega) (show ((m.outs.length : Int) - ((k : Int) + 1)).toNat < ((m.outs.length : Int) - (k : Int)).toNat by omega))
          obtain ⟨gk, ok, hgk⟩ := (LK.out _ J.out).base (by rw [pairL_len]; omega)
          subst hgk
          obtain ⟨x, hx⟩ : ∃ x : Tp, x = ⟨id.1, UInt32.ofNat k, id.2⟩ := ⟨_, rfl⟩
          have RK : Hid (wr.rangeAt gk (ok + k * 33) x.cells) := by
            have := (LK.out _ J.out).range k (by rw [pairL_len]; exact hlt)
            rw [show (pairL id m.outs.length)[k]'(by rw [pairL_len]; exact hlt) = x by rw [hx]; simp [pairL]] at this
            exact this
          have BL : Hid (∀ W, (Instr.build 58 #[(0, .agg (hc id.1)), (1, .int .u32 ((UInt32.ofNat k).toNat : Int))]).run Try.prog W = .ok (.agg x.cells.toArray) W) := fun W => by
            have := bld_Pt x W
            rw [hx] at this
            rw [hx]
            exact this
          have EQ := hide (fun W => eqPt fp_api 9997 x x W)
          rw [decide_eq_true rfl] at EQ
          have HG : Try.prog.eqGuardType Try.prog.depth 58 = false := by kernel_rfl
          generalize (UInt32.ofNat k).toNat = ku at *
          clear hk hlt h5 hx
          go_upto_region 13 with ((with_reducible refine at_list ?_); first | refine wpLoadP _ rfl gk (ok + k * 33) rfl x RK.out (by rfl) ?_ | refine wpList_allocA APt rfl rfl ?_ | refine wpList_store_newA APt rfl _ _ rfl _ rfl x.cells.toArray x.size x.all rfl rfl ?_)
          have J2 := hide (below_next J.out ((Below.refl _ _).alloc (Nat.le_refl _) (.cells x.cells.toArray 58)))
          have RX := hide (heap_alloc_last wr (.cells x.cells.toArray 58))
          have XZ := hide x.size
          clear J
          generalize wr.alloc (.cells x.cells.toArray 58) = U0 at *
          generalize wr.heap.size = g12 at *
          have RI2 := hide (RI.out _ (below_next DV3.out J2.out))
          go_wp2_with ((with_reducible refine at_list ?_); first | refine wpList_loadS APt _ rfl g12 rfl x.cells.toArray XZ.out 58 RX.out (by rfl) ?_ | refine wpLoadHash _ rfl (w.heap.size + 1 + 1) 0 rfl id.1 id.2 RI2.out (by rfl) ?_ | refine wpList_bldX rfl _ rfl #[(0, .agg (hc id.1)), (1, .int .u32 (ku : Int))] x.cells.toArray (by simp only [List.map_toArray, List.map_cons, List.map_nil]; rfl) BL.out ?_ | refine wpList_neq 58 _ _ _ rfl x.cells.toArray x.cells.toArray rfl rfl (by rfl) HG true EQ.out ?_)
          exact ⟨⟨k + 1, KK.out.1, by go_num, J2.out⟩, by simpa [intOf] using KK.out.2⟩
        · have h1 : ¬ (k : Int) < (m.outs.length : Int) := by omega
          clear hk hlt
          go_wp2
          go_ret
          exact ⟨rfl, below_next B0.out (below_next DV3.out J.out)⟩
end
end Go.Proofs.Ytfldpejdpinppaa
