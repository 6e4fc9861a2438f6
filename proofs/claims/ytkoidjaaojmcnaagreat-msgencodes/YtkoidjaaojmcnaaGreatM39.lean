/- The law's ref: a message as the document has it. -/
import Derived.Test.YtkoidjaaojmcnaaGreatM10
import Derived.Test.YtkoidjaaojmcnaaGreatM09
namespace Go.Proofs.YtkoidjaaojmcnaaGreat
open Go.RowKit
open Go.Deep
/-- The start of ref: what its first assignment leaves. -/
theorem Rb.first {w W : World} {m : Mg} {s : Vs} {g : Nat} (b : Below ((w.alloc (.cells (m.cells s).toArray 38)).alloc (.cells (zM.cells nil8).toArray 50)).heap.size ((w.alloc (.cells (m.cells s).toArray 38)).alloc (.cells (zM.cells nil8).toArray 50)) W) (hg : ((w.alloc (.cells (m.cells s).toArray 38)).alloc (.cells (zM.cells nil8).toArray 50)).heap.size ≤ g) (h : W.heap[g]? = some (.cells (m.cells nil8).toArray 50 (0, 0))) : Rb w m s g nil8 zM W := by
  have e1 := heap_alloc_last w (.cells (m.cells s).toArray 38)
  have e2 := heap_alloc_last (w.alloc (.cells (m.cells s).toArray 38)) (.cells (zM.cells nil8).toArray 50)
  rw [show (w.alloc (.cells (m.cells s).toArray 38)).heap.size = w.heap.size + 1 by simp] at e2
  have b0 : Below w.heap.size w ((w.alloc (.cells (m.cells s).toArray 38)).alloc (.cells (zM.cells nil8).toArray 50)) := ((Below.refl _ _).alloc (Nat.le_refl _) _).alloc (by simp) _
  have hs : ((w.alloc (.cells (m.cells s).toArray 38)).alloc (.cells (zM.cells nil8).toArray 50)).heap.size = w.heap.size + 2 := by simp
  rw [hs] at b hg
  exact ⟨b0.trans (b.mono (by omega)), mcf_of m s ((b.block _ (by omega)).trans ((Below.heap_alloc _ _ _ (lt_heap e1)).trans e1)), (b.block _ (by omega)).trans e2, mcf_of m nil8 h, by omega, OX.nil _, OX.nil _, OX.nil _, OX.nil _, OX.nil _, OX.nil _, OX.nil _, OX.nil _, fun _ h => (by cases h), fun _ h => (by cases h), fun _ h => (by cases h), fun _ h => (by cases h), fun _ h => (by cases h), fun _ h => (by cases h), fun _ h => (by cases h), fun _ h => (by cases h)⟩
theorem run_bldI (x : Im) (w : World) : (Instr.build 75 #[(0, .int .u32 (x.kind.toNat : Int)), (1, .agg (cellsL x.hash).toArray)]).run Tryz.prog w = .ok (.agg x.cells.toArray) w := by
  obtain ⟨k, h, hh⟩ := x
  obtain ⟨_, _, _, _, _, _, _, _, _, _, _, _, _, _, _, _, _, _, _, _, _, _, _, _, _, _, _, _, _, _, _, _, rfl⟩ := id32' h hh
  kernel_rfl
theorem run_bldF (x : Fd) (w : World) : (Instr.build 78 #[(0, .int .i64 x.place), (1, .string x.raw)]).run Tryz.prog w = .ok (.agg x.cells.toArray) w := by kernel_rfl
section
set_option maxRecDepth 100000
set_option maxHeartbeats 16000000
theorem ref_any (m : Mg) (s : Vs) (w : World) (hm : ML w s m) (hz : m.small) : Calls Tryz.prog 6 #[.agg (m.cells s).toArray] w fun e w' => ∃ so, e = .returned (.agg (m.cells so).toArray) ∧ MR w' so m ∧ Below w.heap.size w w' := by
  have HM := hide hm
  have HZ := hide hz
  have HO := hide (m.one nil8 nil8_ok)
  have HN := hide (fun x W => net_any x W)
  have FI := hide (fun W g b hg h => Rb.first (w := w) (W := W) (m := m) (s := s) (g := g) b hg h)
  have C1 : Hid (∀ W, Below ((w.alloc (.cells (m.cells s).toArray 38)).alloc (.cells (zM.cells nil8).toArray 50)).heap.size ((w.alloc (.cells (m.cells s).toArray 38)).alloc (.cells (zM.cells nil8).toArray 50)) W → Mc W w.heap.size m s) := fun W b => by
    have e1 := heap_alloc_last w (.cells (m.cells s).toArray 38)
    have hs : ((w.alloc (.cells (m.cells s).toArray 38)).alloc (.cells (zM.cells nil8).toArray 50)).heap.size = w.heap.size + 2 := by simp
    rw [hs] at b
    exact Mc.of ((b.block _ (by omega)).trans ((Below.heap_alloc _ _ _ (lt_heap e1)).trans e1))
  clear hm hz
  go_enter Tryz.func6, Tryz.ntmps6
  go_upto_region 1 with (with_reducible refine at_list ?_; first | refine wpList_boxA rfl _ rfl ((m.cells s).toArray) rfl ?_ | refine wpList_allocA AMr rfl rfl ?_)
  try simp only [Act.put, List.setIfInBounds_toArray, List.set_cons_succ, List.set_cons_zero]
  generalize ((w.alloc (.cells (m.cells s).toArray 38)).alloc (.cells (zM.cells nil8).toArray 50)) = W0 at *
  rw [show (w.alloc (.cells (m.cells s).toArray 38)).heap.size = w.heap.size + 1 by simp]
  go_cut [3] from 8 to 40 (fun s3 wx => ∃ g3, s3 = .pointer (some ⟨g3, 0, none⟩) ∧ Hid (Rb w m s g3 nil8 zM wx))
  case first =>
    refine wp_region_held_drew (S := fun W => Below W0.heap.size W0 W) (by kernel_rfl) ((Below.refl _ _).drew) (fun hH => ?_)
    refine wpAnyH_take (i := 0) (v := (.pointer (some ⟨w.heap.size, 0, none⟩))) rfl (by kernel_rfl) (by kernel_rfl) (by kernel_rfl) (fun _ _ _ h => h) (.inl ⟨by rfl, fun W _ => by go_simp⟩) hH ?_
    change wpAnyH _ _ _ _ _ _ _ (Act.put _ (some 8) _) _
    simp only [Act.put, List.setIfInBounds_toArray, List.set_cons_zero, List.set_cons_succ]
    refine wpAnyH_take (i := 1) (v := (.int .i64 m.kind)) rfl (by kernel_rfl) (by kernel_rfl) (by kernel_rfl) (fun _ _ _ h => h) (.inl ⟨by rfl, fun W hS => by have c4 := (C1.out W hS).f0; go_simp⟩) hH ?_
    change wpAnyH _ _ _ _ _ _ _ (Act.put _ (some 9) _) _
    simp only [Act.put, List.setIfInBounds_toArray, List.set_cons_zero, List.set_cons_succ]
    refine wpAnyH_take (i := 2) (v := (.pointer (some ⟨w.heap.size, 1, none⟩))) rfl (by kernel_rfl) (by kernel_rfl) (by kernel_rfl) (fun _ _ _ h => h) (.inl ⟨by rfl, fun W _ => by go_simp⟩) hH ?_
    change wpAnyH _ _ _ _ _ _ _ (Act.put _ (some 10) _) _
    simp only [Act.put, List.setIfInBounds_toArray, List.set_cons_zero, List.set_cons_succ]
    refine wpAnyH_take (i := 3) (v := (.int .u32 (m.vers.toNat : Int))) rfl (by kernel_rfl) (by kernel_rfl) (by kernel_rfl) (fun _ _ _ h => h) (.inl ⟨by rfl, fun W hS => by have c4 := (C1.out W hS).f1; go_simp⟩) hH ?_
    change wpAnyH _ _ _ _ _ _ _ (Act.put _ (some 11) _) _
    simp only [Act.put, List.setIfInBounds_toArray, List.set_cons_zero, List.set_cons_succ]
    refine wpAnyH_take (i := 4) (v := (.pointer (some ⟨w.heap.size, 2, none⟩))) rfl (by kernel_rfl) (by kernel_rfl) (by kernel_rfl) (fun _ _ _ h => h) (.inl ⟨by rfl, fun W _ => by go_simp⟩) hH ?_
    change wpAnyH _ _ _ _ _ _ _ (Act.put _ (some 12) _) _
    simp only [Act.put, List.setIfInBounds_toArray, List.set_cons_zero, List.set_cons_succ]
    refine wpAnyH_take (i := 5) (v := (.int .u64 (m.serv.toNat : Int))) rfl (by kernel_rfl) (by kernel_rfl) (by kernel_rfl) (fun _ _ _ h => h) (.inl ⟨by rfl, fun W hS => by have c4 := (C1.out W hS).f2; go_simp⟩) hH ?_
    change wpAnyH _ _ _ _ _ _ _ (Act.put _ (some 13) _) _
    simp only [Act.put, List.setIfInBounds_toArray, List.set_cons_zero, List.set_cons_succ]
    refine wpAnyH_take (i := 6) (v := (.pointer (some ⟨w.heap.size, 3, none⟩))) rfl (by kernel_rfl) (by kernel_rfl) (by kernel_rfl) (fun _ _ _ h => h) (.inl ⟨by rfl, fun W _ => by go_simp⟩) hH ?_
    change wpAnyH _ _ _ _ _ _ _ (Act.put _ (some 14) _) _
    simp only [Act.put, List.setIfInBounds_toArray, List.set_cons_zero, List.set_cons_succ]
    refine wpAnyH_take (i := 7) (v := (.int .u64 (m.nonce.toNat : Int))) rfl (by kernel_rfl) (by kernel_rfl) (by kernel_rfl) (fun _ _ _ h => h) (.inl ⟨by rfl, fun W hS => by have c4 := (C1.out W hS).f3; go_simp⟩) hH ?_
    change wpAnyH _ _ _ _ _ _ _ (Act.put _ (some 15) _) _
    simp only [Act.put, List.setIfInBounds_toArray, List.set_cons_zero, List.set_cons_succ]
    refine wpAnyH_take (i := 8) (v := (.pointer (some ⟨w.heap.size, 4, none⟩))) rfl (by kernel_rfl) (by kernel_rfl) (by kernel_rfl) (fun _ _ _ h => h) (.inl ⟨by rfl, fun W _ => by go_simp⟩) hH ?_
    change wpAnyH _ _ _ _ _ _ _ (Act.put _ (some 16) _) _
    simp only [Act.put, List.setIfInBounds_toArray, List.set_cons_zero, List.set_cons_succ]
    refine wpAnyH_take (i := 9) (v := (.int .i64 m.time)) rfl (by kernel_rfl) (by kernel_rfl) (by kernel_rfl) (fun _ _ _ h => h) (.inl ⟨by rfl, fun W hS => by have c4 := (C1.out W hS).f4; go_simp⟩) hH ?_
    change wpAnyH _ _ _ _ _ _ _ (Act.put _ (some 17) _) _
    simp only [Act.put, List.setIfInBounds_toArray, List.set_cons_zero, List.set_cons_succ]
    refine wpAnyH_take (i := 10) (v := (.pointer (some ⟨w.heap.size, 5, none⟩))) rfl (by kernel_rfl) (by kernel_rfl) (by kernel_rfl) (fun _ _ _ h => h) (.inl ⟨by rfl, fun W _ => by go_simp⟩) hH ?_
    change wpAnyH _ _ _ _ _ _ _ (Act.put _ (some 18) _) _
    simp only [Act.put, List.setIfInBounds_toArray, List.set_cons_zero, List.set_cons_succ]
    refine wpAnyH_take (i := 11) (v := (.agg m.dst.cells.toArray)) rfl (by kernel_rfl) (by kernel_rfl) (by kernel_rfl) (fun _ _ _ h => h) (yl_load (by rfl) _ (by rfl) _ m.dst.cells.toArray (by rfl) (fun W hS => KN.load m.dst Tryz.underlying27 rfl (C1.out W hS).dst)) hH ?_
    change wpAnyH _ _ _ _ _ _ _ (Act.put _ (some 19) _) _
    simp only [Act.put, List.setIfInBounds_toArray, List.set_cons_zero, List.set_cons_succ]
    refine wpAnyH_take (i := 13) (v := (.pointer (some ⟨w.heap.size, 24, none⟩))) rfl (by kernel_rfl) (by kernel_rfl) (by kernel_rfl) (fun _ _ _ h => h) (.inl ⟨by rfl, fun W _ => by go_simp⟩) hH ?_
    change wpAnyH _ _ _ _ _ _ _ (Act.put _ (some 21) _) _
    simp only [Act.put, List.setIfInBounds_toArray, List.set_cons_zero, List.set_cons_succ]
    refine wpAnyH_take (i := 14) (v := (.agg m.src.cells.toArray)) rfl (by kernel_rfl) (by kernel_rfl) (by kernel_rfl) (fun _ _ _ h => h) (yl_load (by rfl) _ (by rfl) _ m.src.cells.toArray (by rfl) (fun W hS => KN.load m.src Tryz.underlying27 rfl (C1.out W hS).src)) hH ?_
    change wpAnyH _ _ _ _ _ _ _ (Act.put _ (some 22) _) _
    simp only [Act.put, List.setIfInBounds_toArray, List.set_cons_zero, List.set_cons_succ]
    refine wpAnyH_take (i := 16) (v := (.pointer (some ⟨w.heap.size, 43, none⟩))) rfl (by kernel_rfl) (by kernel_rfl) (by kernel_rfl) (fun _ _ _ h => h) (.inl ⟨by rfl, fun W _ => by go_simp⟩) hH ?_
    change wpAnyH _ _ _ _ _ _ _ (Act.put _ (some 24) _) _
    simp only [Act.put, List.setIfInBounds_toArray, List.set_cons_zero, List.set_cons_succ]
    refine wpAnyH_take (i := 17) (v := (.string m.agent)) rfl (by kernel_rfl) (by kernel_rfl) (by kernel_rfl) (fun _ _ _ h => h) (.inl ⟨by rfl, fun W hS => by have c4 := (C1.out W hS).f7; go_simp⟩) hH ?_
    change wpAnyH _ _ _ _ _ _ _ (Act.put _ (some 25) _) _
    simp only [Act.put, List.setIfInBounds_toArray, List.set_cons_zero, List.set_cons_succ]
    refine wpAnyH_take (i := 18) (v := (.pointer (some ⟨w.heap.size, 44, none⟩))) rfl (by kernel_rfl) (by kernel_rfl) (by kernel_rfl) (fun _ _ _ h => h) (.inl ⟨by rfl, fun W _ => by go_simp⟩) hH ?_
    change wpAnyH _ _ _ _ _ _ _ (Act.put _ (some 26) _) _
    simp only [Act.put, List.setIfInBounds_toArray, List.set_cons_zero, List.set_cons_succ]
    refine wpAnyH_take (i := 19) (v := (.int .u32 (m.height.toNat : Int))) rfl (by kernel_rfl) (by kernel_rfl) (by kernel_rfl) (fun _ _ _ h => h) (.inl ⟨by rfl, fun W hS => by have c4 := (C1.out W hS).f8; go_simp⟩) hH ?_
    change wpAnyH _ _ _ _ _ _ _ (Act.put _ (some 27) _) _
    simp only [Act.put, List.setIfInBounds_toArray, List.set_cons_zero, List.set_cons_succ]
    refine wpAnyH_take (i := 20) (v := (.pointer (some ⟨w.heap.size, 45, none⟩))) rfl (by kernel_rfl) (by kernel_rfl) (by kernel_rfl) (fun _ _ _ h => h) (.inl ⟨by rfl, fun W _ => by go_simp⟩) hH ?_
    change wpAnyH _ _ _ _ _ _ _ (Act.put _ (some 28) _) _
    simp only [Act.put, List.setIfInBounds_toArray, List.set_cons_zero, List.set_cons_succ]
    refine wpAnyH_take (i := 21) (v := (.bool m.relay)) rfl (by kernel_rfl) (by kernel_rfl) (by kernel_rfl) (fun _ _ _ h => h) (.inl ⟨by rfl, fun W hS => by have c4 := (C1.out W hS).f9; go_simp⟩) hH ?_
    change wpAnyH _ _ _ _ _ _ _ (Act.put _ (some 29) _) _
    simp only [Act.put, List.setIfInBounds_toArray, List.set_cons_zero, List.set_cons_succ]
    refine wpAnyH_take (i := 22) (v := (.pointer (some ⟨w.heap.size, 46, none⟩))) rfl (by kernel_rfl) (by kernel_rfl) (by kernel_rfl) (fun _ _ _ h => h) (.inl ⟨by rfl, fun W _ => by go_simp⟩) hH ?_
    change wpAnyH _ _ _ _ _ _ _ (Act.put _ (some 30) _) _
    simp only [Act.put, List.setIfInBounds_toArray, List.set_cons_zero, List.set_cons_succ]
    refine wpAnyH_take (i := 23) (v := (.bool m.high)) rfl (by kernel_rfl) (by kernel_rfl) (by kernel_rfl) (fun _ _ _ h => h) (.inl ⟨by rfl, fun W hS => by have c4 := (C1.out W hS).f10; go_simp⟩) hH ?_
    change wpAnyH _ _ _ _ _ _ _ (Act.put _ (some 31) _) _
    simp only [Act.put, List.setIfInBounds_toArray, List.set_cons_zero, List.set_cons_succ]
    refine wpAnyH_take (i := 24) (v := (.pointer (some ⟨w.heap.size, 50, none⟩))) rfl (by kernel_rfl) (by kernel_rfl) (by kernel_rfl) (fun _ _ _ h => h) (.inl ⟨by rfl, fun W _ => by go_simp⟩) hH ?_
    change wpAnyH _ _ _ _ _ _ _ (Act.put _ (some 32) _) _
    simp only [Act.put, List.setIfInBounds_toArray, List.set_cons_zero, List.set_cons_succ]
    refine wpAnyH_take (i := 25) (v := (.agg (cellsL m.stop.1).toArray)) rfl (by kernel_rfl) (by kernel_rfl) (by kernel_rfl) (fun _ _ _ h => h) (yl_load (by rfl) _ (by rfl) _ (cellsL m.stop.1).toArray (by rfl) (fun W hS => KH.load m.stop Tryz.underlying32 rfl (C1.out W hS).stop)) hH ?_
    change wpAnyH _ _ _ _ _ _ _ (Act.put _ (some 33) _) _
    simp only [Act.put, List.setIfInBounds_toArray, List.set_cons_zero, List.set_cons_succ]
    refine wpAnyH_take (i := 26) (v := (.pointer (some ⟨w.heap.size, 82, none⟩))) rfl (by kernel_rfl) (by kernel_rfl) (by kernel_rfl) (fun _ _ _ h => h) (.inl ⟨by rfl, fun W _ => by go_simp⟩) hH ?_
    change wpAnyH _ _ _ _ _ _ _ (Act.put _ (some 34) _) _
    simp only [Act.put, List.setIfInBounds_toArray, List.set_cons_zero, List.set_cons_succ]
    refine wpAnyH_take (i := 27) (v := (.agg (cellsL m.hash.1).toArray)) rfl (by kernel_rfl) (by kernel_rfl) (by kernel_rfl) (fun _ _ _ h => h) (yl_load (by rfl) _ (by rfl) _ (cellsL m.hash.1).toArray (by rfl) (fun W hS => KH.load m.hash Tryz.underlying32 rfl (C1.out W hS).hash)) hH ?_
    change wpAnyH _ _ _ _ _ _ _ (Act.put _ (some 35) _) _
    simp only [Act.put, List.setIfInBounds_toArray, List.set_cons_zero, List.set_cons_succ]
    refine wpAnyH_take (i := 28) (v := (.pointer (some ⟨w.heap.size, 115, none⟩))) rfl (by kernel_rfl) (by kernel_rfl) (by kernel_rfl) (fun _ _ _ h => h) (.inl ⟨by rfl, fun W _ => by go_simp⟩) hH ?_
    change wpAnyH _ _ _ _ _ _ _ (Act.put _ (some 36) _) _
    simp only [Act.put, List.setIfInBounds_toArray, List.set_cons_zero, List.set_cons_succ]
    refine wpAnyH_take (i := 29) (v := (.string m.head)) rfl (by kernel_rfl) (by kernel_rfl) (by kernel_rfl) (fun _ _ _ h => h) (.inl ⟨by rfl, fun W hS => by have c4 := (C1.out W hS).f17; go_simp⟩) hH ?_
    change wpAnyH _ _ _ _ _ _ _ (Act.put _ (some 37) _) _
    simp only [Act.put, List.setIfInBounds_toArray, List.set_cons_zero, List.set_cons_succ]
    refine wpAnyH_take (i := 30) (v := (.pointer (some ⟨w.heap.size, 116, none⟩))) rfl (by kernel_rfl) (by kernel_rfl) (by kernel_rfl) (fun _ _ _ h => h) (.inl ⟨by rfl, fun W _ => by go_simp⟩) hH ?_
    change wpAnyH _ _ _ _ _ _ _ (Act.put _ (some 38) _) _
    simp only [Act.put, List.setIfInBounds_toArray, List.set_cons_zero, List.set_cons_succ]
    refine wpAnyH_take (i := 31) (v := (.string m.raw)) rfl (by kernel_rfl) (by kernel_rfl) (by kernel_rfl) (fun _ _ _ h => h) (.inl ⟨by rfl, fun W hS => by have c4 := (C1.out W hS).f18; go_simp⟩) hH ?_
    change wpAnyH _ _ _ _ _ _ _ (Act.put _ (some 39) _) _
    simp only [Act.put, List.setIfInBounds_toArray, List.set_cons_zero, List.set_cons_succ]
    have BD := hide ((Below.refl W0.heap.size W0).drew)
    generalize hWd : W0.drew = W1 at *
    clear hWd
    refine wpAnyH_ready (rs := [12, 33]) (by kernel_rfl) (by simp) (AllReadyH.cons rfl (fun K1 hK1 => ?_) (AllReadyH.cons rfl (fun K1 hK1 => ?_) AllReadyH.nil))
    · go_simp
      refine (HN.out m.dst W1).mono ?_
      rintro e W2 ⟨rfl, be2⟩
      have BA2 := hide (below_next BD.out be2)
      clear be2
      refine hK1.out _ _ BA2.out (fun hH => ?_)
      clear hK1
      refine wpAnyH_ready (rs := [15, 33]) (by kernel_rfl) (by simp) (AllReadyH.cons rfl (fun K1 hK1 => ?_) (AllReadyH.cons rfl (fun K1 hK1 => ?_) AllReadyH.nil))
      · go_simp
        refine (HN.out m.src W2).mono ?_
        rintro e W3 ⟨rfl, be3⟩
        have BA3 := hide (below_next BA2.out be3)
        clear be3
        refine hK1.out _ _ BA3.out (fun hH => ?_)
        clear hK1
        refine wpAnyH_take (i := 32) (v := (.agg (m.cells nil8).toArray)) rfl (by kernel_rfl) (by kernel_rfl) (by kernel_rfl) (fun _ _ _ h => h) (yl_build (by rfl) _ (by rfl) #[(0, .int .i64 m.kind), (1, .int .u32 (m.vers.toNat : Int)), (2, .int .u64 (m.serv.toNat : Int)), (3, .int .u64 (m.nonce.toNat : Int)), (4, .int .i64 m.time), (5, .agg m.dst.cells.toArray), (6, .agg m.src.cells.toArray), (7, .string m.agent), (8, .int .u32 (m.height.toNat : Int)), (9, .bool m.relay), (10, .bool m.high), (14, .agg (cellsL m.stop.1).toArray), (15, .agg (cellsL m.hash.1).toArray), (17, .string m.head), (18, .string m.raw)] _ (by simp only [List.map_toArray, List.map_cons, List.map_nil]; rfl) (fun W => run_bldR m W)) hH ?_
        change wpAnyH _ _ _ _ _ _ _ (Act.put _ (some 40) _) _
        simp only [Act.put, List.setIfInBounds_toArray, List.set_cons_zero, List.set_cons_succ]
        refine wpAnyH_ready (rs := [33]) (by kernel_rfl) (by simp) (AllReadyH.cons rfl (fun K1 hK1 => ?_) AllReadyH.nil)
        · have BA4 := hide (below_next BA3.out ((Below.refl W3.heap.size W3).alloc (Nat.le_refl _) (.cells (zM.cells nil8).toArray 50)))
          have GA4 := hide (heap_alloc_last W3 (.cells (zM.cells nil8).toArray 50))
          have LA4 := hide (show W0.heap.size ≤ W3.heap.size from BA3.out.size)
          refine stepAllocA AMr (by rfl) (by rfl) ?_
          refine hK1.out _ _ BA4.out (fun hH => ?_)
          clear hK1
          change wpAnyH _ _ _ _ _ _ _ (Act.put _ (some 3) _) _
          simp only [Act.put, List.setIfInBounds_toArray, List.set_cons_zero, List.set_cons_succ]
          generalize hW4 : W3.alloc (.cells (zM.cells nil8).toArray 50) = W4 at *
          clear hW4
          generalize W3.heap.size = ga at *
          refine wpAnyH_ready (rs := [34]) (by kernel_rfl) (by simp) (AllReadyH.cons rfl (fun K1 hK1 => ?_) AllReadyH.nil)
          refine stepStoreA AMr (by rfl) _ _ (by rfl) ga (m.cells nil8).toArray (m.size nil8) HO.out (by rfl) (by rfl) (zM.cells nil8).toArray (zM.size nil8) 50 GA4.out ?_
          have BF := hide (below_setRow BA4.out LA4.out (m.cells nil8).toArray)
          have GF := hide (setRow_heap W4 ga _ (m.cells nil8).toArray _ _ GA4.out)
          refine hK1.out _ _ BF.out (fun hH => ?_)
          clear hK1
          refine wpAnyH_done (by kernel_rfl) ?_ _
          go_wp2_with fail
          go_meet
          exact ⟨ga, rfl, FI.out _ _ BF.out LA4.out GF.out⟩
      · have BA3 := hide (below_next BA2.out ((Below.refl W2.heap.size W2).alloc (Nat.le_refl _) (.cells (zM.cells nil8).toArray 50)))
        have GA3 := hide (heap_alloc_last W2 (.cells (zM.cells nil8).toArray 50))
        have LA3 := hide (show W0.heap.size ≤ W2.heap.size from BA2.out.size)
        refine stepAllocA AMr (by rfl) (by rfl) ?_
        refine hK1.out _ _ BA3.out (fun hH => ?_)
        clear hK1
        change wpAnyH _ _ _ _ _ _ _ (Act.put _ (some 3) _) _
        simp only [Act.put, List.setIfInBounds_toArray, List.set_cons_zero, List.set_cons_succ]
        generalize hW3 : W2.alloc (.cells (zM.cells nil8).toArray 50) = W3 at *
        clear hW3
        generalize W2.heap.size = ga at *
        refine wpAnyH_ready (rs := [15]) (by kernel_rfl) (by simp) (AllReadyH.cons rfl (fun K1 hK1 => ?_) AllReadyH.nil)
        · go_simp
          refine (HN.out m.src W3).mono ?_
          rintro e W4 ⟨rfl, be4⟩
          have BA4 := hide (below_next BA3.out be4)
          have GA4 := hide ((be4.block _ (lt_heap GA3.out)).trans GA3.out)
          clear be4
          refine hK1.out _ _ BA4.out (fun hH => ?_)
          clear hK1
          refine wpAnyH_take (i := 32) (v := (.agg (m.cells nil8).toArray)) rfl (by kernel_rfl) (by kernel_rfl) (by kernel_rfl) (fun _ _ _ h => h) (yl_build (by rfl) _ (by rfl) #[(0, .int .i64 m.kind), (1, .int .u32 (m.vers.toNat : Int)), (2, .int .u64 (m.serv.toNat : Int)), (3, .int .u64 (m.nonce.toNat : Int)), (4, .int .i64 m.time), (5, .agg m.dst.cells.toArray), (6, .agg m.src.cells.toArray), (7, .string m.agent), (8, .int .u32 (m.height.toNat : Int)), (9, .bool m.relay), (10, .bool m.high), (14, .agg (cellsL m.stop.1).toArray), (15, .agg (cellsL m.hash.1).toArray), (17, .string m.head), (18, .string m.raw)] _ (by simp only [List.map_toArray, List.map_cons, List.map_nil]; rfl) (fun W => run_bldR m W)) hH ?_
          change wpAnyH _ _ _ _ _ _ _ (Act.put _ (some 40) _) _
          simp only [Act.put, List.setIfInBounds_toArray, List.set_cons_zero, List.set_cons_succ]
          refine wpAnyH_ready (rs := [34]) (by kernel_rfl) (by simp) (AllReadyH.cons rfl (fun K1 hK1 => ?_) AllReadyH.nil)
          refine stepStoreA AMr (by rfl) _ _ (by rfl) ga (m.cells nil8).toArray (m.size nil8) HO.out (by rfl) (by rfl) (zM.cells nil8).toArray (zM.size nil8) 50 GA4.out ?_
          have BF := hide (below_setRow BA4.out LA3.out (m.cells nil8).toArray)
          have GF := hide (setRow_heap W4 ga _ (m.cells nil8).toArray _ _ GA4.out)
          refine hK1.out _ _ BF.out (fun hH => ?_)
          clear hK1
          refine wpAnyH_done (by kernel_rfl) ?_ _
          go_wp2_with fail
          go_meet
          exact ⟨ga, rfl, FI.out _ _ BF.out LA3.out GF.out⟩
    · have BA2 := hide (below_next BD.out ((Below.refl W1.heap.size W1).alloc (Nat.le_refl _) (.cells (zM.cells nil8).toArray 50)))
      have GA2 := hide (heap_alloc_last W1 (.cells (zM.cells nil8).toArray 50))
      have LA2 := hide (show W0.heap.size ≤ W1.heap.size from BD.out.size)
      refine stepAllocA AMr (by rfl) (by rfl) ?_
      refine hK1.out _ _ BA2.out (fun hH => ?_)
      clear hK1
      change wpAnyH _ _ _ _ _ _ _ (Act.put _ (some 3) _) _
      simp only [Act.put, List.setIfInBounds_toArray, List.set_cons_zero, List.set_cons_succ]
      generalize hW2 : W1.alloc (.cells (zM.cells nil8).toArray 50) = W2 at *
      clear hW2
      generalize W1.heap.size = ga at *
      refine wpAnyH_ready (rs := [12]) (by kernel_rfl) (by simp) (AllReadyH.cons rfl (fun K1 hK1 => ?_) AllReadyH.nil)
      · go_simp
        refine (HN.out m.dst W2).mono ?_
        rintro e W3 ⟨rfl, be3⟩
        have BA3 := hide (below_next BA2.out be3)
        have GA3 := hide ((be3.block _ (lt_heap GA2.out)).trans GA2.out)
        clear be3
        refine hK1.out _ _ BA3.out (fun hH => ?_)
        clear hK1
        refine wpAnyH_ready (rs := [15]) (by kernel_rfl) (by simp) (AllReadyH.cons rfl (fun K1 hK1 => ?_) AllReadyH.nil)
        · go_simp
          refine (HN.out m.src W3).mono ?_
          rintro e W4 ⟨rfl, be4⟩
          have BA4 := hide (below_next BA3.out be4)
          have GA4 := hide ((be4.block _ (lt_heap GA3.out)).trans GA3.out)
          clear be4
          refine hK1.out _ _ BA4.out (fun hH => ?_)
          clear hK1
          refine wpAnyH_take (i := 32) (v := (.agg (m.cells nil8).toArray)) rfl (by kernel_rfl) (by kernel_rfl) (by kernel_rfl) (fun _ _ _ h => h) (yl_build (by rfl) _ (by rfl) #[(0, .int .i64 m.kind), (1, .int .u32 (m.vers.toNat : Int)), (2, .int .u64 (m.serv.toNat : Int)), (3, .int .u64 (m.nonce.toNat : Int)), (4, .int .i64 m.time), (5, .agg m.dst.cells.toArray), (6, .agg m.src.cells.toArray), (7, .string m.agent), (8, .int .u32 (m.height.toNat : Int)), (9, .bool m.relay), (10, .bool m.high), (14, .agg (cellsL m.stop.1).toArray), (15, .agg (cellsL m.hash.1).toArray), (17, .string m.head), (18, .string m.raw)] _ (by simp only [List.map_toArray, List.map_cons, List.map_nil]; rfl) (fun W => run_bldR m W)) hH ?_
          change wpAnyH _ _ _ _ _ _ _ (Act.put _ (some 40) _) _
          simp only [Act.put, List.setIfInBounds_toArray, List.set_cons_zero, List.set_cons_succ]
          refine wpAnyH_ready (rs := [34]) (by kernel_rfl) (by simp) (AllReadyH.cons rfl (fun K1 hK1 => ?_) AllReadyH.nil)
          refine stepStoreA AMr (by rfl) _ _ (by rfl) ga (m.cells nil8).toArray (m.size nil8) HO.out (by rfl) (by rfl) (zM.cells nil8).toArray (zM.size nil8) 50 GA4.out ?_
          have BF := hide (below_setRow BA4.out LA2.out (m.cells nil8).toArray)
          have GF := hide (setRow_heap W4 ga _ (m.cells nil8).toArray _ _ GA4.out)
          refine hK1.out _ _ BF.out (fun hH => ?_)
          clear hK1
          refine wpAnyH_done (by kernel_rfl) ?_ _
          go_wp2_with fail
          go_meet
          exact ⟨ga, rfl, FI.out _ _ BF.out LA2.out GF.out⟩
  obtain ⟨g3, rfl, R0⟩ := hcut
  clear FI C1 HO
  generalize wc = B1 at *
  have E1 := hide (Rb.bega R0.out rfl)
  obtain ⟨ao1, ca1, ea1⟩ := HM.out.a.form
  have CC1 : Hid (∀ W, Rfr g3 B1 W → W.cell? ⟨w.heap.size, 47, none⟩ = some (.slice ao1 m.addrs.length ca1)) := fun W fr => by
    rw [← ea1, ← mcv_a m s]
    exact World.rowIs.cell (R0.out.r1W fr) (by decide)
  have LX1 : Hid (∀ W, Rfr g3 B1 W → LX KN W (.slice ao1 m.addrs.length ca1) m.addrs) := fun W fr => by
    rw [← ea1]
    exact HM.out.a.below (R0.out.belW fr)
  clear ea1
  go_wp2
  go_loopw [4] (fun i wr => ∃ (k : Nat) (v : Value), k ≤ m.addrs.length ∧ i = .int .i64 (k : Int) ∧ Hid (Ob KNr 50 g3 B1 (fun v => mcf m ((nil8).ata v)) wr v (m.addrs.take k))) (fun i _ => (m.addrs.length - intOf i).toNat)
  case atStart => exact ⟨0, _, Nat.zero_le _, rfl, E1⟩
  case round =>
    clear E1
    obtain ⟨k, v, hk, rfl, J⟩ := hrel
    have c1 := CC1.out wr J.out.fr
    by_cases hlt : k < m.addrs.length
    · have h1 : (k : Int) < (m.addrs.length : Int) := by omega
      have h2 : (0 : Int) ≤ (k : Int) := by omega
      have h63 : m.addrs.length < 4611686018427387904 := HZ.out.fit.a
      have e1 : IntKind.i64.wrap ((k : Int) + 1) = k + 1 := wrapI _ (by omega) (by omega)
      have SZ : Hid (((m.addrs.take k).length + 1) * KNr.b ≤ 140737488355328 ∧ (m.addrs.take k).length + 1 ≤ maxLen) := by
        have z := HZ.out.a
        rw [List.length_take, Nat.min_eq_left hk]
        exact ⟨show (k + 1) * 40 ≤ _ by omega, show k + 1 ≤ 9223372036854775807 by omega⟩
      have KK := hide (And.intro (show k + 1 ≤ m.addrs.length by omega) (show ((m.addrs.length : Int) - ((k : Int) + 1)).toNat < ((m.addrs.length : Int) - (k : Int)).toNat by omega))
      have HT := hide (List.take_append_getElem hlt)
      obtain ⟨ga, oa, rfl⟩ := (LX1.out wr J.out.fr).base (by omega)
      have RG : Hid (∀ W, Rfr g3 B1 W → W.rangeAt ga (oa + k * 19) (KN.enc m.addrs[k])) := fun W fr => (LX1.out W fr).range k hlt
      generalize m.addrs[k] = x at *
      generalize hL : m.addrs.take k = L at *
      generalize hL1 : m.addrs.take (k + 1) = L1 at *
      generalize m.addrs.length = ln at *
      have HL1 := hide hL1
      clear hL hL1 hlt hk h63
      go_upto_region 5 with fail
      refine wp_region_held_drew (S := Rfr g3 B1) (by kernel_rfl) (J.out.fr.trans (Rfr.drew _ _)) (fun hH => ?_)
      refine wpAnyH_take (i := 0) (v := (.pointer (some ⟨g3, 47, none⟩))) rfl (by kernel_rfl) (by kernel_rfl) (by kernel_rfl) (fun _ _ _ h => h) (.inl ⟨by rfl, fun W _ => by go_simp⟩) hH ?_
      change wpAnyH _ _ _ _ _ _ _ (Act.put _ (some 48) _) _
      simp only [Act.put, List.setIfInBounds_toArray, List.set_cons_zero, List.set_cons_succ]
      refine wpAnyH_take (i := 2) (v := (.pointer (some ⟨w.heap.size, 47, none⟩))) rfl (by kernel_rfl) (by kernel_rfl) (by kernel_rfl) (fun _ _ _ h => h) (.inl ⟨by rfl, fun W _ => by go_simp⟩) hH ?_
      change wpAnyH _ _ _ _ _ _ _ (Act.put _ (some 50) _) _
      simp only [Act.put, List.setIfInBounds_toArray, List.set_cons_zero, List.set_cons_succ]
      refine wpAnyH_take (i := 3) (v := (.slice (some ⟨ga, oa, none⟩) ln ca1)) rfl (by kernel_rfl) (by kernel_rfl) (by kernel_rfl) (fun _ _ _ h => h) (.inl ⟨by rfl, fun W hS => by have c4 := CC1.out W hS; go_simp⟩) hH ?_
      change wpAnyH _ _ _ _ _ _ _ (Act.put _ (some 51) _) _
      simp only [Act.put, List.setIfInBounds_toArray, List.set_cons_zero, List.set_cons_succ]
      refine wpAnyH_take (i := 4) (v := (.int .i64 (k : Int))) rfl (by kernel_rfl) (by kernel_rfl) (by kernel_rfl) (fun _ _ _ h => h) (yl_move (by rfl) _ (by rfl) _ (by rfl)) hH ?_
      change wpAnyH _ _ _ _ _ _ _ (Act.put _ (some 52) _) _
      simp only [Act.put, List.setIfInBounds_toArray, List.set_cons_zero, List.set_cons_succ]
      refine wpAnyH_take (i := 5) (v := (.pointer (some ⟨ga, oa + k * 19, none⟩))) rfl (by kernel_rfl) (by kernel_rfl) (by kernel_rfl) (fun _ _ _ h => h) (.inl ⟨by rfl, fun W _ => by go_simp⟩) hH ?_
      change wpAnyH _ _ _ _ _ _ _ (Act.put _ (some 53) _) _
      simp only [Act.put, List.setIfInBounds_toArray, List.set_cons_zero, List.set_cons_succ]
      refine wpAnyH_take (i := 6) (v := (.agg x.cells.toArray)) rfl (by kernel_rfl) (by kernel_rfl) (by kernel_rfl) (fun _ _ _ h => h) (yl_load (by rfl) _ (by rfl) _ x.cells.toArray (by rfl) (fun W hS => KN.load x Tryz.underlying27 rfl (RG.out W hS))) hH ?_
      change wpAnyH _ _ _ _ _ _ _ (Act.put _ (some 54) _) _
      simp only [Act.put, List.setIfInBounds_toArray, List.set_cons_zero, List.set_cons_succ]
      have JD := hide (J.out.next ((Below.refl _ _).drew))
      generalize wr.drew = W1 at *
      clear J c1
      refine wpAnyH_ready (rs := [1, 7]) (by kernel_rfl) (by simp) (AllReadyH.cons rfl (fun K1 hK1 => ?_) (AllReadyH.cons rfl (fun K1 hK1 => ?_) AllReadyH.nil))
      · have x4 : W1.cell? ⟨g3, 47, none⟩ = some v := (World.rowIs.cell JD.out.row (i := 47) (by decide)).trans (congrArg some (mcv_a m _))
        go_simp
        refine hK1.out _ _ JD.out.fr (fun hH => ?_)
        clear hK1 x4
        refine wpAnyH_ready (rs := [7]) (by kernel_rfl) (by simp) (AllReadyH.cons rfl (fun K1 hK1 => ?_) AllReadyH.nil)
        · go_simp
          refine (HN.out x W1).mono ?_
          rintro e W3 ⟨rfl, be⟩
          have J3 := hide (JD.out.next be)
          clear be
          refine hK1.out _ _ J3.out.fr (fun hH => ?_)
          clear hK1
          refine wpAnyH_ready (rs := [8]) (by kernel_rfl) (by simp) (AllReadyH.cons rfl (fun K1 hK1 => ?_) AllReadyH.nil)
          · refine Ek.stepBs1 KNr (by rfl) _ (by rfl) x (by rfl) ?_
            have J4 := hide (J3.out.next ((Below.refl _ _).alloc (Nat.le_refl _) (.cells (KNr.enc x).toArray KNr.e)))
            have N4 := hide (one_newX (E := KNr) W3 x)
            refine hK1.out _ _ J4.out.fr (fun hH => ?_)
            clear hK1
            change wpAnyH _ _ _ _ _ _ _ (Act.put _ (some 56) _) _
            simp only [Act.put, List.setIfInBounds_toArray, List.set_cons_zero, List.set_cons_succ]
            generalize W3.alloc (.cells (KNr.enc x).toArray KNr.e) = W4 at *
            generalize W3.heap.size = gb at *
            refine wpAnyH_ready (rs := [9]) (by kernel_rfl) (by simp) (AllReadyH.cons rfl (fun K1 hK1 => ?_) AllReadyH.nil)
            refine Ek.stepApp KNr (by rfl) _ _ (by rfl) v L (by rfl) J4.out.ox ⟨gb, 0, none⟩ x (by rfl) N4.out SZ.out.1 SZ.out.2 ?_
            intro v5 w5 o5 on5
            have o6 := o5
            rw [HT.out] at o6
            obtain ⟨ao5, c5, rfl⟩ := o6.form
            clear o6
            have FO := hide (J4.out.frO on5)
            have f4 := World.rowIs.frozen FO.out.2 47
            have y4 := World.rowIs.cell FO.out.2 (i := 47) (by decide)
            have J5 := hide (J4.out.put o5 on5 47 (mcf_a m ((nil8).ata v) _))
            clear o5 on5
            refine hK1.out _ _ FO.out.1 (fun hH => ?_)
            clear hK1
            change wpAnyH _ _ _ _ _ _ _ (Act.put _ (some 57) _) _
            simp only [Act.put, List.setIfInBounds_toArray, List.set_cons_zero, List.set_cons_succ]
            refine wpAnyH_take (i := 10) (v := (.pointer (some ⟨g3, 47, none⟩))) rfl (by kernel_rfl) (by kernel_rfl) (by kernel_rfl) (fun _ _ _ h => h) (.inl ⟨by rfl, fun W _ => by go_simp⟩) hH ?_
            change wpAnyH _ _ _ _ _ _ _ (Act.put _ (some 58) _) _
            simp only [Act.put, List.setIfInBounds_toArray, List.set_cons_zero, List.set_cons_succ]
            refine wpAnyH_ready (rs := [11]) (by kernel_rfl) (by simp) (AllReadyH.cons rfl (fun K1 hK1 => ?_) AllReadyH.nil)
            go_simp
            refine hK1.out _ _ J5.out.fr (fun hH => ?_)
            clear hK1
            refine wpAnyH_done (by kernel_rfl) ?_ _
            rw [HT.out] at J5
            go_wp2
            exact ⟨⟨k + 1, _, KK.out.1, by go_num, by rw [HL1.out]; exact J5⟩, by simpa [intOf] using KK.out.2⟩
      · go_simp
        refine (HN.out x W1).mono ?_
        rintro e W2 ⟨rfl, be⟩
        have J2 := hide (JD.out.next be)
        clear be
        refine hK1.out _ _ J2.out.fr (fun hH => ?_)
        clear hK1
        refine wpAnyH_ready (rs := [1, 8]) (by kernel_rfl) (by simp) (AllReadyH.cons rfl (fun K1 hK1 => ?_) (AllReadyH.cons rfl (fun K1 hK1 => ?_) AllReadyH.nil))
        · have x4 : W2.cell? ⟨g3, 47, none⟩ = some v := (World.rowIs.cell J2.out.row (i := 47) (by decide)).trans (congrArg some (mcv_a m _))
          go_simp
          refine hK1.out _ _ J2.out.fr (fun hH => ?_)
          clear hK1 x4
          refine wpAnyH_ready (rs := [8]) (by kernel_rfl) (by simp) (AllReadyH.cons rfl (fun K1 hK1 => ?_) AllReadyH.nil)
          · refine Ek.stepBs1 KNr (by rfl) _ (by rfl) x (by rfl) ?_
            have J4 := hide (J2.out.next ((Below.refl _ _).alloc (Nat.le_refl _) (.cells (KNr.enc x).toArray KNr.e)))
            have N4 := hide (one_newX (E := KNr) W2 x)
            refine hK1.out _ _ J4.out.fr (fun hH => ?_)
            clear hK1
            change wpAnyH _ _ _ _ _ _ _ (Act.put _ (some 56) _) _
            simp only [Act.put, List.setIfInBounds_toArray, List.set_cons_zero, List.set_cons_succ]
            generalize W2.alloc (.cells (KNr.enc x).toArray KNr.e) = W4 at *
            generalize W2.heap.size = gb at *
            refine wpAnyH_ready (rs := [9]) (by kernel_rfl) (by simp) (AllReadyH.cons rfl (fun K1 hK1 => ?_) AllReadyH.nil)
            refine Ek.stepApp KNr (by rfl) _ _ (by rfl) v L (by rfl) J4.out.ox ⟨gb, 0, none⟩ x (by rfl) N4.out SZ.out.1 SZ.out.2 ?_
            intro v5 w5 o5 on5
            have o6 := o5
            rw [HT.out] at o6
            obtain ⟨ao5, c5, rfl⟩ := o6.form
            clear o6
            have FO := hide (J4.out.frO on5)
            have f4 := World.rowIs.frozen FO.out.2 47
            have y4 := World.rowIs.cell FO.out.2 (i := 47) (by decide)
            have J5 := hide (J4.out.put o5 on5 47 (mcf_a m ((nil8).ata v) _))
            clear o5 on5
            refine hK1.out _ _ FO.out.1 (fun hH => ?_)
            clear hK1
            change wpAnyH _ _ _ _ _ _ _ (Act.put _ (some 57) _) _
            simp only [Act.put, List.setIfInBounds_toArray, List.set_cons_zero, List.set_cons_succ]
            refine wpAnyH_take (i := 10) (v := (.pointer (some ⟨g3, 47, none⟩))) rfl (by kernel_rfl) (by kernel_rfl) (by kernel_rfl) (fun _ _ _ h => h) (.inl ⟨by rfl, fun W _ => by go_simp⟩) hH ?_
            change wpAnyH _ _ _ _ _ _ _ (Act.put _ (some 58) _) _
            simp only [Act.put, List.setIfInBounds_toArray, List.set_cons_zero, List.set_cons_succ]
            refine wpAnyH_ready (rs := [11]) (by kernel_rfl) (by simp) (AllReadyH.cons rfl (fun K1 hK1 => ?_) AllReadyH.nil)
            go_simp
            refine hK1.out _ _ J5.out.fr (fun hH => ?_)
            clear hK1
            refine wpAnyH_done (by kernel_rfl) ?_ _
            rw [HT.out] at J5
            go_wp2
            exact ⟨⟨k + 1, _, KK.out.1, by go_num, by rw [HL1.out]; exact J5⟩, by simpa [intOf] using KK.out.2⟩
        · refine Ek.stepBs1 KNr (by rfl) _ (by rfl) x (by rfl) ?_
          have J3 := hide (J2.out.next ((Below.refl _ _).alloc (Nat.le_refl _) (.cells (KNr.enc x).toArray KNr.e)))
          have N3 := hide (one_newX (E := KNr) W2 x)
          refine hK1.out _ _ J3.out.fr (fun hH => ?_)
          clear hK1
          change wpAnyH _ _ _ _ _ _ _ (Act.put _ (some 56) _) _
          simp only [Act.put, List.setIfInBounds_toArray, List.set_cons_zero, List.set_cons_succ]
          generalize W2.alloc (.cells (KNr.enc x).toArray KNr.e) = W3 at *
          generalize W2.heap.size = gb at *
          refine wpAnyH_ready (rs := [1]) (by kernel_rfl) (by simp) (AllReadyH.cons rfl (fun K1 hK1 => ?_) AllReadyH.nil)
          · have x4 : W3.cell? ⟨g3, 47, none⟩ = some v := (World.rowIs.cell J3.out.row (i := 47) (by decide)).trans (congrArg some (mcv_a m _))
            go_simp
            refine hK1.out _ _ J3.out.fr (fun hH => ?_)
            clear hK1 x4
            refine wpAnyH_ready (rs := [9]) (by kernel_rfl) (by simp) (AllReadyH.cons rfl (fun K1 hK1 => ?_) AllReadyH.nil)
            refine Ek.stepApp KNr (by rfl) _ _ (by rfl) v L (by rfl) J3.out.ox ⟨gb, 0, none⟩ x (by rfl) N3.out SZ.out.1 SZ.out.2 ?_
            intro v5 w5 o5 on5
            have o6 := o5
            rw [HT.out] at o6
            obtain ⟨ao5, c5, rfl⟩ := o6.form
            clear o6
            have FO := hide (J3.out.frO on5)
            have f4 := World.rowIs.frozen FO.out.2 47
            have y4 := World.rowIs.cell FO.out.2 (i := 47) (by decide)
            have J5 := hide (J3.out.put o5 on5 47 (mcf_a m ((nil8).ata v) _))
            clear o5 on5
            refine hK1.out _ _ FO.out.1 (fun hH => ?_)
            clear hK1
            change wpAnyH _ _ _ _ _ _ _ (Act.put _ (some 57) _) _
            simp only [Act.put, List.setIfInBounds_toArray, List.set_cons_zero, List.set_cons_succ]
            refine wpAnyH_take (i := 10) (v := (.pointer (some ⟨g3, 47, none⟩))) rfl (by kernel_rfl) (by kernel_rfl) (by kernel_rfl) (fun _ _ _ h => h) (.inl ⟨by rfl, fun W _ => by go_simp⟩) hH ?_
            change wpAnyH _ _ _ _ _ _ _ (Act.put _ (some 58) _) _
            simp only [Act.put, List.setIfInBounds_toArray, List.set_cons_zero, List.set_cons_succ]
            refine wpAnyH_ready (rs := [11]) (by kernel_rfl) (by simp) (AllReadyH.cons rfl (fun K1 hK1 => ?_) AllReadyH.nil)
            go_simp
            refine hK1.out _ _ J5.out.fr (fun hH => ?_)
            clear hK1
            refine wpAnyH_done (by kernel_rfl) ?_ _
            rw [HT.out] at J5
            go_wp2
            exact ⟨⟨k + 1, _, KK.out.1, by go_num, by rw [HL1.out]; exact J5⟩, by simpa [intOf] using KK.out.2⟩
    · have h1 : ¬ (k : Int) < (m.addrs.length : Int) := by omega
      have J9 : Hid (Ob KNr 50 g3 B1 (fun v => mcf m ((nil8).ata v)) wr v m.addrs) := by
        have := J.out
        rw [List.take_of_length_le (by omega)] at this
        exact this
      have R1 := hide (Rb.enda R0.out J9.out)
      clear J J9 hlt hk CC1 LX1 R0
      -- exit 1
      go_upto_region 6 with fail
      clear c1 h1
      generalize wr = B2 at *
      generalize v = v1x at *
      have E2 := hide (Rb.begi R1.out rfl)
      obtain ⟨ao2, ca2, ea2⟩ := HM.out.i.form
      have CC2 : Hid (∀ W, Rfr g3 B2 W → W.cell? ⟨w.heap.size, 48, none⟩ = some (.slice ao2 m.items.length ca2)) := fun W fr => by
        rw [← ea2, ← mcv_i m s]
        exact World.rowIs.cell (R1.out.r1W fr) (by decide)
      have LX2 : Hid (∀ W, Rfr g3 B2 W → LX KI W (.slice ao2 m.items.length ca2) m.items) := fun W fr => by
        rw [← ea2]
        exact HM.out.i.below (R1.out.belW fr)
      clear ea2
      go_wp2
      go_loopw [5] (fun i wr => ∃ (k : Nat) (v : Value), k ≤ m.items.length ∧ i = .int .i64 (k : Int) ∧ Hid (Ob KIr 50 g3 B2 (fun v => mcf m ((((nil8).ata v1x)).ati v)) wr v (m.items.take k))) (fun i _ => (m.items.length - intOf i).toNat)
      case atStart => exact ⟨0, _, Nat.zero_le _, rfl, E2⟩
      case round =>
        clear E2
        obtain ⟨k, v, hk, rfl, J⟩ := hrel
        have c1 := CC2.out wr J.out.fr
        by_cases hlt : k < m.items.length
        · have h1 : (k : Int) < (m.items.length : Int) := by omega
          have h2 : (0 : Int) ≤ (k : Int) := by omega
          have h63 : m.items.length < 4611686018427387904 := HZ.out.fit.i
          have e1 : IntKind.i64.wrap ((k : Int) + 1) = k + 1 := wrapI _ (by omega) (by omega)
          have SZ : Hid (((m.items.take k).length + 1) * KIr.b ≤ 140737488355328 ∧ (m.items.take k).length + 1 ≤ maxLen) := by
            have z := HZ.out.i
            rw [List.length_take, Nat.min_eq_left hk]
            exact ⟨show (k + 1) * 36 ≤ _ by omega, show k + 1 ≤ 9223372036854775807 by omega⟩
          have KK := hide (And.intro (show k + 1 ≤ m.items.length by omega) (show ((m.items.length : Int) - ((k : Int) + 1)).toNat < ((m.items.length : Int) - (k : Int)).toNat by omega))
          have HT := hide (List.take_append_getElem hlt)
          obtain ⟨ga, oa, rfl⟩ := (LX2.out wr J.out.fr).base (by omega)
          have RG : Hid (∀ W, Rfr g3 B2 W → W.rangeAt ga (oa + k * 33) (KI.enc m.items[k])) := fun W fr => (LX2.out W fr).range k hlt
          generalize m.items[k] = x at *
          generalize hL : m.items.take k = L at *
          generalize hL1 : m.items.take (k + 1) = L1 at *
          generalize m.items.length = ln at *
          have HL1 := hide hL1
          clear hL hL1 hlt hk h63
          go_upto_region 9 with fail
          refine wp_region_held_drew (S := Rfr g3 B2) (by kernel_rfl) (J.out.fr.trans (Rfr.drew _ _)) (fun hH => ?_)
          refine wpAnyH_take (i := 0) (v := (.pointer (some ⟨g3, 48, none⟩))) rfl (by kernel_rfl) (by kernel_rfl) (by kernel_rfl) (fun _ _ _ h => h) (.inl ⟨by rfl, fun W _ => by go_simp⟩) hH ?_
          change wpAnyH _ _ _ _ _ _ _ (Act.put _ (some 66) _) _
          simp only [Act.put, List.setIfInBounds_toArray, List.set_cons_zero, List.set_cons_succ]
          refine wpAnyH_take (i := 2) (v := (.pointer (some ⟨w.heap.size, 48, none⟩))) rfl (by kernel_rfl) (by kernel_rfl) (by kernel_rfl) (fun _ _ _ h => h) (.inl ⟨by rfl, fun W _ => by go_simp⟩) hH ?_
          change wpAnyH _ _ _ _ _ _ _ (Act.put _ (some 68) _) _
          simp only [Act.put, List.setIfInBounds_toArray, List.set_cons_zero, List.set_cons_succ]
          refine wpAnyH_take (i := 3) (v := (.slice (some ⟨ga, oa, none⟩) ln ca2)) rfl (by kernel_rfl) (by kernel_rfl) (by kernel_rfl) (fun _ _ _ h => h) (.inl ⟨by rfl, fun W hS => by have c4 := CC2.out W hS; go_simp⟩) hH ?_
          change wpAnyH _ _ _ _ _ _ _ (Act.put _ (some 69) _) _
          simp only [Act.put, List.setIfInBounds_toArray, List.set_cons_zero, List.set_cons_succ]
          refine wpAnyH_take (i := 4) (v := (.int .i64 (k : Int))) rfl (by kernel_rfl) (by kernel_rfl) (by kernel_rfl) (fun _ _ _ h => h) (yl_move (by rfl) _ (by rfl) _ (by rfl)) hH ?_
          change wpAnyH _ _ _ _ _ _ _ (Act.put _ (some 70) _) _
          simp only [Act.put, List.setIfInBounds_toArray, List.set_cons_zero, List.set_cons_succ]
          refine wpAnyH_take (i := 5) (v := (.pointer (some ⟨ga, oa + k * 33, none⟩))) rfl (by kernel_rfl) (by kernel_rfl) (by kernel_rfl) (fun _ _ _ h => h) (.inl ⟨by rfl, fun W _ => by go_simp⟩) hH ?_
          change wpAnyH _ _ _ _ _ _ _ (Act.put _ (some 71) _) _
          simp only [Act.put, List.setIfInBounds_toArray, List.set_cons_zero, List.set_cons_succ]
          refine wpAnyH_take (i := 6) (v := (.pointer (some ⟨ga, oa + k * 33, none⟩))) rfl (by kernel_rfl) (by kernel_rfl) (by kernel_rfl) (fun _ _ _ h => h) (.inl ⟨by rfl, fun W _ => by go_simp⟩) hH ?_
          change wpAnyH _ _ _ _ _ _ _ (Act.put _ (some 72) _) _
          simp only [Act.put, List.setIfInBounds_toArray, List.set_cons_zero, List.set_cons_succ]
          refine wpAnyH_take (i := 7) (v := (.int .u32 (x.kind.toNat : Int))) rfl (by kernel_rfl) (by kernel_rfl) (by kernel_rfl) (fun _ _ _ h => h) (.inl ⟨by rfl, fun W hS => by have c4 : W.cell? ⟨ga, oa + k * 33, none⟩ = some (.int .u32 (x.kind.toNat : Int)) := RG.out W hS 0 _ rfl; go_simp⟩) hH ?_
          change wpAnyH _ _ _ _ _ _ _ (Act.put _ (some 73) _) _
          simp only [Act.put, List.setIfInBounds_toArray, List.set_cons_zero, List.set_cons_succ]
          refine wpAnyH_take (i := 8) (v := (.pointer (some ⟨w.heap.size, 48, none⟩))) rfl (by kernel_rfl) (by kernel_rfl) (by kernel_rfl) (fun _ _ _ h => h) (.inl ⟨by rfl, fun W _ => by go_simp⟩) hH ?_
          change wpAnyH _ _ _ _ _ _ _ (Act.put _ (some 74) _) _
          simp only [Act.put, List.setIfInBounds_toArray, List.set_cons_zero, List.set_cons_succ]
          refine wpAnyH_take (i := 9) (v := (.slice (some ⟨ga, oa, none⟩) ln ca2)) rfl (by kernel_rfl) (by kernel_rfl) (by kernel_rfl) (fun _ _ _ h => h) (.inl ⟨by rfl, fun W hS => by have c4 := CC2.out W hS; go_simp⟩) hH ?_
          change wpAnyH _ _ _ _ _ _ _ (Act.put _ (some 75) _) _
          simp only [Act.put, List.setIfInBounds_toArray, List.set_cons_zero, List.set_cons_succ]
          refine wpAnyH_take (i := 10) (v := (.int .i64 (k : Int))) rfl (by kernel_rfl) (by kernel_rfl) (by kernel_rfl) (fun _ _ _ h => h) (yl_move (by rfl) _ (by rfl) _ (by rfl)) hH ?_
          change wpAnyH _ _ _ _ _ _ _ (Act.put _ (some 76) _) _
          simp only [Act.put, List.setIfInBounds_toArray, List.set_cons_zero, List.set_cons_succ]
          refine wpAnyH_take (i := 11) (v := (.pointer (some ⟨ga, oa + k * 33, none⟩))) rfl (by kernel_rfl) (by kernel_rfl) (by kernel_rfl) (fun _ _ _ h => h) (.inl ⟨by rfl, fun W _ => by go_simp⟩) hH ?_
          change wpAnyH _ _ _ _ _ _ _ (Act.put _ (some 77) _) _
          simp only [Act.put, List.setIfInBounds_toArray, List.set_cons_zero, List.set_cons_succ]
          refine wpAnyH_take (i := 12) (v := (.pointer (some ⟨ga, oa + k * 33 + 1, none⟩))) rfl (by kernel_rfl) (by kernel_rfl) (by kernel_rfl) (fun _ _ _ h => h) (.inl ⟨by rfl, fun W _ => by go_simp⟩) hH ?_
          change wpAnyH _ _ _ _ _ _ _ (Act.put _ (some 78) _) _
          simp only [Act.put, List.setIfInBounds_toArray, List.set_cons_zero, List.set_cons_succ]
          refine wpAnyH_take (i := 13) (v := (.agg (cellsL x.hash).toArray)) rfl (by kernel_rfl) (by kernel_rfl) (by kernel_rfl) (fun _ _ _ h => h) (yl_load (by rfl) _ (by rfl) _ (cellsL x.hash).toArray (by rfl) (fun W hS => KH.load ⟨x.hash, x.hh⟩ Tryz.underlying32 rfl (fun j u hu => by have := RG.out W hS (1 + j) u (by rw [Nat.add_comm 1 j]; exact hu); rw [← Nat.add_assoc] at this; exact this))) hH ?_
          change wpAnyH _ _ _ _ _ _ _ (Act.put _ (some 79) _) _
          simp only [Act.put, List.setIfInBounds_toArray, List.set_cons_zero, List.set_cons_succ]
          refine wpAnyH_take (i := 14) (v := (.agg x.cells.toArray)) rfl (by kernel_rfl) (by kernel_rfl) (by kernel_rfl) (fun _ _ _ h => h) (yl_build (by rfl) _ (by rfl) #[(0, .int .u32 (x.kind.toNat : Int)), (1, .agg (cellsL x.hash).toArray)] _ (by simp only [List.map_toArray, List.map_cons, List.map_nil]; rfl) (fun W => run_bldI x W)) hH ?_
          change wpAnyH _ _ _ _ _ _ _ (Act.put _ (some 80) _) _
          simp only [Act.put, List.setIfInBounds_toArray, List.set_cons_zero, List.set_cons_succ]
          have JD := hide (J.out.next ((Below.refl _ _).drew))
          generalize wr.drew = W1 at *
          clear J c1
          refine wpAnyH_ready (rs := [1, 15]) (by kernel_rfl) (by simp) (AllReadyH.cons rfl (fun K1 hK1 => ?_) (AllReadyH.cons rfl (fun K1 hK1 => ?_) AllReadyH.nil))
          · have x4 : W1.cell? ⟨g3, 48, none⟩ = some v := (World.rowIs.cell JD.out.row (i := 48) (by decide)).trans (congrArg some (mcv_i m _))
            go_simp
            refine hK1.out _ _ JD.out.fr (fun hH => ?_)
            clear hK1 x4
            refine wpAnyH_ready (rs := [15]) (by kernel_rfl) (by simp) (AllReadyH.cons rfl (fun K1 hK1 => ?_) AllReadyH.nil)
            · refine Ek.stepBs1 KIr (by rfl) _ (by rfl) x (by rfl) ?_
              have J3 := hide (JD.out.next ((Below.refl _ _).alloc (Nat.le_refl _) (.cells (KIr.enc x).toArray KIr.e)))
              have N3 := hide (one_newX (E := KIr) W1 x)
              refine hK1.out _ _ J3.out.fr (fun hH => ?_)
              clear hK1
              change wpAnyH _ _ _ _ _ _ _ (Act.put _ (some 81) _) _
              simp only [Act.put, List.setIfInBounds_toArray, List.set_cons_zero, List.set_cons_succ]
              generalize W1.alloc (.cells (KIr.enc x).toArray KIr.e) = W3 at *
              generalize W1.heap.size = gb at *
              refine wpAnyH_ready (rs := [16]) (by kernel_rfl) (by simp) (AllReadyH.cons rfl (fun K1 hK1 => ?_) AllReadyH.nil)
              refine Ek.stepApp KIr (by rfl) _ _ (by rfl) v L (by rfl) J3.out.ox ⟨gb, 0, none⟩ x (by rfl) N3.out SZ.out.1 SZ.out.2 ?_
              intro v5 w5 o5 on5
              have o6 := o5
              rw [HT.out] at o6
              obtain ⟨ao5, c5, rfl⟩ := o6.form
              clear o6
              have FO := hide (J3.out.frO on5)
              have f4 := World.rowIs.frozen FO.out.2 48
              have y4 := World.rowIs.cell FO.out.2 (i := 48) (by decide)
              have J5 := hide (J3.out.put o5 on5 48 (mcf_i m ((((nil8).ata v1x)).ati v) _))
              clear o5 on5
              refine hK1.out _ _ FO.out.1 (fun hH => ?_)
              clear hK1
              change wpAnyH _ _ _ _ _ _ _ (Act.put _ (some 82) _) _
              simp only [Act.put, List.setIfInBounds_toArray, List.set_cons_zero, List.set_cons_succ]
              refine wpAnyH_take (i := 17) (v := (.pointer (some ⟨g3, 48, none⟩))) rfl (by kernel_rfl) (by kernel_rfl) (by kernel_rfl) (fun _ _ _ h => h) (.inl ⟨by rfl, fun W _ => by go_simp⟩) hH ?_
              change wpAnyH _ _ _ _ _ _ _ (Act.put _ (some 83) _) _
              simp only [Act.put, List.setIfInBounds_toArray, List.set_cons_zero, List.set_cons_succ]
              refine wpAnyH_ready (rs := [18]) (by kernel_rfl) (by simp) (AllReadyH.cons rfl (fun K1 hK1 => ?_) AllReadyH.nil)
              go_simp
              refine hK1.out _ _ J5.out.fr (fun hH => ?_)
              clear hK1
              refine wpAnyH_done (by kernel_rfl) ?_ _
              rw [HT.out] at J5
              go_wp2
              exact ⟨⟨k + 1, _, KK.out.1, by go_num, by rw [HL1.out]; exact J5⟩, by simpa [intOf] using KK.out.2⟩
          · refine Ek.stepBs1 KIr (by rfl) _ (by rfl) x (by rfl) ?_
            have J2 := hide (JD.out.next ((Below.refl _ _).alloc (Nat.le_refl _) (.cells (KIr.enc x).toArray KIr.e)))
            have N2 := hide (one_newX (E := KIr) W1 x)
            refine hK1.out _ _ J2.out.fr (fun hH => ?_)
            clear hK1
            change wpAnyH _ _ _ _ _ _ _ (Act.put _ (some 81) _) _
            simp only [Act.put, List.setIfInBounds_toArray, List.set_cons_zero, List.set_cons_succ]
            generalize W1.alloc (.cells (KIr.enc x).toArray KIr.e) = W2 at *
            generalize W1.heap.size = gb at *
            refine wpAnyH_ready (rs := [1]) (by kernel_rfl) (by simp) (AllReadyH.cons rfl (fun K1 hK1 => ?_) AllReadyH.nil)
            · have x4 : W2.cell? ⟨g3, 48, none⟩ = some v := (World.rowIs.cell J2.out.row (i := 48) (by decide)).trans (congrArg some (mcv_i m _))
              go_simp
              refine hK1.out _ _ J2.out.fr (fun hH => ?_)
              clear hK1 x4
              refine wpAnyH_ready (rs := [16]) (by kernel_rfl) (by simp) (AllReadyH.cons rfl (fun K1 hK1 => ?_) AllReadyH.nil)
              refine Ek.stepApp KIr (by rfl) _ _ (by rfl) v L (by rfl) J2.out.ox ⟨gb, 0, none⟩ x (by rfl) N2.out SZ.out.1 SZ.out.2 ?_
              intro v5 w5 o5 on5
              have o6 := o5
              rw [HT.out] at o6
              obtain ⟨ao5, c5, rfl⟩ := o6.form
              clear o6
              have FO := hide (J2.out.frO on5)
              have f4 := World.rowIs.frozen FO.out.2 48
              have y4 := World.rowIs.cell FO.out.2 (i := 48) (by decide)
              have J5 := hide (J2.out.put o5 on5 48 (mcf_i m ((((nil8).ata v1x)).ati v) _))
              clear o5 on5
              refine hK1.out _ _ FO.out.1 (fun hH => ?_)
              clear hK1
              change wpAnyH _ _ _ _ _ _ _ (Act.put _ (some 82) _) _
              simp only [Act.put, List.setIfInBounds_toArray, List.set_cons_zero, List.set_cons_succ]
              refine wpAnyH_take (i := 17) (v := (.pointer (some ⟨g3, 48, none⟩))) rfl (by kernel_rfl) (by kernel_rfl) (by kernel_rfl) (fun _ _ _ h => h) (.inl ⟨by rfl, fun W _ => by go_simp⟩) hH ?_
              change wpAnyH _ _ _ _ _ _ _ (Act.put _ (some 83) _) _
              simp only [Act.put, List.setIfInBounds_toArray, List.set_cons_zero, List.set_cons_succ]
              refine wpAnyH_ready (rs := [18]) (by kernel_rfl) (by simp) (AllReadyH.cons rfl (fun K1 hK1 => ?_) AllReadyH.nil)
              go_simp
              refine hK1.out _ _ J5.out.fr (fun hH => ?_)
              clear hK1
              refine wpAnyH_done (by kernel_rfl) ?_ _
              rw [HT.out] at J5
              go_wp2
              exact ⟨⟨k + 1, _, KK.out.1, by go_num, by rw [HL1.out]; exact J5⟩, by simpa [intOf] using KK.out.2⟩
        · have h1 : ¬ (k : Int) < (m.items.length : Int) := by omega
          have J9 : Hid (Ob KIr 50 g3 B2 (fun v => mcf m ((((nil8).ata v1x)).ati v)) wr v m.items) := by
            have := J.out
            rw [List.take_of_length_le (by omega)] at this
            exact this
          have R2 := hide (Rb.endi R1.out J9.out)
          clear J J9 hlt hk CC2 LX2 R1
          -- exit 2
          go_upto_region 10 with fail
          clear c1 h1
          generalize wr = B3 at *
          generalize v = v2x at *
          have E3 := hide (Rb.begh R2.out rfl)
          obtain ⟨ao3, ca3, ea3⟩ := HM.out.h.form
          have CC3 : Hid (∀ W, Rfr g3 B3 W → W.cell? ⟨w.heap.size, 49, none⟩ = some (.slice ao3 m.hashes.length ca3)) := fun W fr => by
            rw [← ea3, ← mcv_h m s]
            exact World.rowIs.cell (R2.out.r1W fr) (by decide)
          have LX3 : Hid (∀ W, Rfr g3 B3 W → LX KH W (.slice ao3 m.hashes.length ca3) m.hashes) := fun W fr => by
            rw [← ea3]
            exact HM.out.h.below (R2.out.belW fr)
          clear ea3
          go_wp2
          go_loopw [6] (fun i wr => ∃ (k : Nat) (v : Value), k ≤ m.hashes.length ∧ i = .int .i64 (k : Int) ∧ Hid (Ob KHr 50 g3 B3 (fun v => mcf m ((((((nil8).ata v1x)).ati v2x)).ath v)) wr v (m.hashes.take k))) (fun i _ => (m.hashes.length - intOf i).toNat)
          case atStart => exact ⟨0, _, Nat.zero_le _, rfl, E3⟩
          case round =>
            clear E3
            obtain ⟨k, v, hk, rfl, J⟩ := hrel
            have c1 := CC3.out wr J.out.fr
            by_cases hlt : k < m.hashes.length
            · have h1 : (k : Int) < (m.hashes.length : Int) := by omega
              have h2 : (0 : Int) ≤ (k : Int) := by omega
              have h63 : m.hashes.length < 4611686018427387904 := HZ.out.fit.h
              have e1 : IntKind.i64.wrap ((k : Int) + 1) = k + 1 := wrapI _ (by omega) (by omega)
              have SZ : Hid (((m.hashes.take k).length + 1) * KHr.b ≤ 140737488355328 ∧ (m.hashes.take k).length + 1 ≤ maxLen) := by
                have z := HZ.out.h
                rw [List.length_take, Nat.min_eq_left hk]
                exact ⟨show (k + 1) * 32 ≤ _ by omega, show k + 1 ≤ 9223372036854775807 by omega⟩
              have KK := hide (And.intro (show k + 1 ≤ m.hashes.length by omega) (show ((m.hashes.length : Int) - ((k : Int) + 1)).toNat < ((m.hashes.length : Int) - (k : Int)).toNat by omega))
              have HT := hide (List.take_append_getElem hlt)
              obtain ⟨ga, oa, rfl⟩ := (LX3.out wr J.out.fr).base (by omega)
              have RG : Hid (∀ W, Rfr g3 B3 W → W.rangeAt ga (oa + k * 32) (KH.enc m.hashes[k])) := fun W fr => (LX3.out W fr).range k hlt
              generalize m.hashes[k] = x at *
              generalize hL : m.hashes.take k = L at *
              generalize hL1 : m.hashes.take (k + 1) = L1 at *
              generalize m.hashes.length = ln at *
              have HL1 := hide hL1
              clear hL hL1 hlt hk h63
              go_upto_region 13 with fail
              refine wp_region_held_drew (S := Rfr g3 B3) (by kernel_rfl) (J.out.fr.trans (Rfr.drew _ _)) (fun hH => ?_)
              refine wpAnyH_take (i := 0) (v := (.pointer (some ⟨g3, 49, none⟩))) rfl (by kernel_rfl) (by kernel_rfl) (by kernel_rfl) (fun _ _ _ h => h) (.inl ⟨by rfl, fun W _ => by go_simp⟩) hH ?_
              change wpAnyH _ _ _ _ _ _ _ (Act.put _ (some 91) _) _
              simp only [Act.put, List.setIfInBounds_toArray, List.set_cons_zero, List.set_cons_succ]
              refine wpAnyH_take (i := 2) (v := (.pointer (some ⟨w.heap.size, 49, none⟩))) rfl (by kernel_rfl) (by kernel_rfl) (by kernel_rfl) (fun _ _ _ h => h) (.inl ⟨by rfl, fun W _ => by go_simp⟩) hH ?_
              change wpAnyH _ _ _ _ _ _ _ (Act.put _ (some 93) _) _
              simp only [Act.put, List.setIfInBounds_toArray, List.set_cons_zero, List.set_cons_succ]
              refine wpAnyH_take (i := 3) (v := (.slice (some ⟨ga, oa, none⟩) ln ca3)) rfl (by kernel_rfl) (by kernel_rfl) (by kernel_rfl) (fun _ _ _ h => h) (.inl ⟨by rfl, fun W hS => by have c4 := CC3.out W hS; go_simp⟩) hH ?_
              change wpAnyH _ _ _ _ _ _ _ (Act.put _ (some 94) _) _
              simp only [Act.put, List.setIfInBounds_toArray, List.set_cons_zero, List.set_cons_succ]
              refine wpAnyH_take (i := 4) (v := (.int .i64 (k : Int))) rfl (by kernel_rfl) (by kernel_rfl) (by kernel_rfl) (fun _ _ _ h => h) (yl_move (by rfl) _ (by rfl) _ (by rfl)) hH ?_
              change wpAnyH _ _ _ _ _ _ _ (Act.put _ (some 95) _) _
              simp only [Act.put, List.setIfInBounds_toArray, List.set_cons_zero, List.set_cons_succ]
              refine wpAnyH_take (i := 5) (v := (.pointer (some ⟨ga, oa + k * 32, none⟩))) rfl (by kernel_rfl) (by kernel_rfl) (by kernel_rfl) (fun _ _ _ h => h) (.inl ⟨by rfl, fun W _ => by go_simp⟩) hH ?_
              change wpAnyH _ _ _ _ _ _ _ (Act.put _ (some 96) _) _
              simp only [Act.put, List.setIfInBounds_toArray, List.set_cons_zero, List.set_cons_succ]
              refine wpAnyH_take (i := 6) (v := (.agg (cellsL x.1).toArray)) rfl (by kernel_rfl) (by kernel_rfl) (by kernel_rfl) (fun _ _ _ h => h) (yl_load (by rfl) _ (by rfl) _ (cellsL x.1).toArray (by rfl) (fun W hS => KH.load x Tryz.underlying32 rfl (RG.out W hS))) hH ?_
              change wpAnyH _ _ _ _ _ _ _ (Act.put _ (some 97) _) _
              simp only [Act.put, List.setIfInBounds_toArray, List.set_cons_zero, List.set_cons_succ]
              have JD := hide (J.out.next ((Below.refl _ _).drew))
              generalize wr.drew = W1 at *
              clear J c1
              refine wpAnyH_ready (rs := [1, 7]) (by kernel_rfl) (by simp) (AllReadyH.cons rfl (fun K1 hK1 => ?_) (AllReadyH.cons rfl (fun K1 hK1 => ?_) AllReadyH.nil))
              · have x4 : W1.cell? ⟨g3, 49, none⟩ = some v := (World.rowIs.cell JD.out.row (i := 49) (by decide)).trans (congrArg some (mcv_h m _))
                go_simp
                refine hK1.out _ _ JD.out.fr (fun hH => ?_)
                clear hK1 x4
                refine wpAnyH_ready (rs := [7]) (by kernel_rfl) (by simp) (AllReadyH.cons rfl (fun K1 hK1 => ?_) AllReadyH.nil)
                · refine Ek.stepBs1 KHr (by rfl) _ (by rfl) x (by rfl) ?_
                  have J3 := hide (JD.out.next ((Below.refl _ _).alloc (Nat.le_refl _) (.cells (KHr.enc x).toArray KHr.e)))
                  have N3 := hide (one_newX (E := KHr) W1 x)
                  refine hK1.out _ _ J3.out.fr (fun hH => ?_)
                  clear hK1
                  change wpAnyH _ _ _ _ _ _ _ (Act.put _ (some 98) _) _
                  simp only [Act.put, List.setIfInBounds_toArray, List.set_cons_zero, List.set_cons_succ]
                  generalize W1.alloc (.cells (KHr.enc x).toArray KHr.e) = W3 at *
                  generalize W1.heap.size = gb at *
                  refine wpAnyH_ready (rs := [8]) (by kernel_rfl) (by simp) (AllReadyH.cons rfl (fun K1 hK1 => ?_) AllReadyH.nil)
                  refine Ek.stepApp KHr (by rfl) _ _ (by rfl) v L (by rfl) J3.out.ox ⟨gb, 0, none⟩ x (by rfl) N3.out SZ.out.1 SZ.out.2 ?_
                  intro v5 w5 o5 on5
                  have o6 := o5
                  rw [HT.out] at o6
                  obtain ⟨ao5, c5, rfl⟩ := o6.form
                  clear o6
                  have FO := hide (J3.out.frO on5)
                  have f4 := World.rowIs.frozen FO.out.2 49
                  have y4 := World.rowIs.cell FO.out.2 (i := 49) (by decide)
                  have J5 := hide (J3.out.put o5 on5 49 (mcf_h m ((((((nil8).ata v1x)).ati v2x)).ath v) _))
                  clear o5 on5
                  refine hK1.out _ _ FO.out.1 (fun hH => ?_)
                  clear hK1
                  change wpAnyH _ _ _ _ _ _ _ (Act.put _ (some 99) _) _
                  simp only [Act.put, List.setIfInBounds_toArray, List.set_cons_zero, List.set_cons_succ]
                  refine wpAnyH_take (i := 9) (v := (.pointer (some ⟨g3, 49, none⟩))) rfl (by kernel_rfl) (by kernel_rfl) (by kernel_rfl) (fun _ _ _ h => h) (.inl ⟨by rfl, fun W _ => by go_simp⟩) hH ?_
                  change wpAnyH _ _ _ _ _ _ _ (Act.put _ (some 100) _) _
                  simp only [Act.put, List.setIfInBounds_toArray, List.set_cons_zero, List.set_cons_succ]
                  refine wpAnyH_ready (rs := [10]) (by kernel_rfl) (by simp) (AllReadyH.cons rfl (fun K1 hK1 => ?_) AllReadyH.nil)
                  go_simp
                  refine hK1.out _ _ J5.out.fr (fun hH => ?_)
                  clear hK1
                  refine wpAnyH_done (by kernel_rfl) ?_ _
                  rw [HT.out] at J5
                  go_wp2
                  exact ⟨⟨k + 1, _, KK.out.1, by go_num, by rw [HL1.out]; exact J5⟩, by simpa [intOf] using KK.out.2⟩
              · refine Ek.stepBs1 KHr (by rfl) _ (by rfl) x (by rfl) ?_
                have J2 := hide (JD.out.next ((Below.refl _ _).alloc (Nat.le_refl _) (.cells (KHr.enc x).toArray KHr.e)))
                have N2 := hide (one_newX (E := KHr) W1 x)
                refine hK1.out _ _ J2.out.fr (fun hH => ?_)
                clear hK1
                change wpAnyH _ _ _ _ _ _ _ (Act.put _ (some 98) _) _
                simp only [Act.put, List.setIfInBounds_toArray, List.set_cons_zero, List.set_cons_succ]
                generalize W1.alloc (.cells (KHr.enc x).toArray KHr.e) = W2 at *
                generalize W1.heap.size = gb at *
                refine wpAnyH_ready (rs := [1]) (by kernel_rfl) (by simp) (AllReadyH.cons rfl (fun K1 hK1 => ?_) AllReadyH.nil)
                · have x4 : W2.cell? ⟨g3, 49, none⟩ = some v := (World.rowIs.cell J2.out.row (i := 49) (by decide)).trans (congrArg some (mcv_h m _))
                  go_simp
                  refine hK1.out _ _ J2.out.fr (fun hH => ?_)
                  clear hK1 x4
                  refine wpAnyH_ready (rs := [8]) (by kernel_rfl) (by simp) (AllReadyH.cons rfl (fun K1 hK1 => ?_) AllReadyH.nil)
                  refine Ek.stepApp KHr (by rfl) _ _ (by rfl) v L (by rfl) J2.out.ox ⟨gb, 0, none⟩ x (by rfl) N2.out SZ.out.1 SZ.out.2 ?_
                  intro v5 w5 o5 on5
                  have o6 := o5
                  rw [HT.out] at o6
                  obtain ⟨ao5, c5, rfl⟩ := o6.form
                  clear o6
                  have FO := hide (J2.out.frO on5)
                  have f4 := World.rowIs.frozen FO.out.2 49
                  have y4 := World.rowIs.cell FO.out.2 (i := 49) (by decide)
                  have J5 := hide (J2.out.put o5 on5 49 (mcf_h m ((((((nil8).ata v1x)).ati v2x)).ath v) _))
                  clear o5 on5
                  refine hK1.out _ _ FO.out.1 (fun hH => ?_)
                  clear hK1
                  change wpAnyH _ _ _ _ _ _ _ (Act.put _ (some 99) _) _
                  simp only [Act.put, List.setIfInBounds_toArray, List.set_cons_zero, List.set_cons_succ]
                  refine wpAnyH_take (i := 9) (v := (.pointer (some ⟨g3, 49, none⟩))) rfl (by kernel_rfl) (by kernel_rfl) (by kernel_rfl) (fun _ _ _ h => h) (.inl ⟨by rfl, fun W _ => by go_simp⟩) hH ?_
                  change wpAnyH _ _ _ _ _ _ _ (Act.put _ (some 100) _) _
                  simp only [Act.put, List.setIfInBounds_toArray, List.set_cons_zero, List.set_cons_succ]
                  refine wpAnyH_ready (rs := [10]) (by kernel_rfl) (by simp) (AllReadyH.cons rfl (fun K1 hK1 => ?_) AllReadyH.nil)
                  go_simp
                  refine hK1.out _ _ J5.out.fr (fun hH => ?_)
                  clear hK1
                  refine wpAnyH_done (by kernel_rfl) ?_ _
                  rw [HT.out] at J5
                  go_wp2
                  exact ⟨⟨k + 1, _, KK.out.1, by go_num, by rw [HL1.out]; exact J5⟩, by simpa [intOf] using KK.out.2⟩
            · have h1 : ¬ (k : Int) < (m.hashes.length : Int) := by omega
              have J9 : Hid (Ob KHr 50 g3 B3 (fun v => mcf m ((((((nil8).ata v1x)).ati v2x)).ath v)) wr v m.hashes) := by
                have := J.out
                rw [List.take_of_length_le (by omega)] at this
                exact this
              have R3 := hide (Rb.endh R2.out J9.out)
              clear J J9 hlt hk CC3 LX3 R2
              -- exit 3
              go_upto_region 14 with fail
              clear c1 h1
              generalize wr = B4 at *
              generalize v = v3x at *
              have E4 := hide (Rb.begf R3.out rfl)
              obtain ⟨ao4, ca4, ea4⟩ := HM.out.f.form
              have CC4 : Hid (∀ W, Rfr g3 B4 W → W.cell? ⟨w.heap.size, 118, none⟩ = some (.slice ao4 m.filled.length ca4)) := fun W fr => by
                rw [← ea4, ← mcv_f m s]
                exact World.rowIs.cell (R3.out.r1W fr) (by decide)
              have LX4 : Hid (∀ W, Rfr g3 B4 W → LX KF W (.slice ao4 m.filled.length ca4) m.filled) := fun W fr => by
                rw [← ea4]
                exact HM.out.f.below (R3.out.belW fr)
              clear ea4
              go_wp2
              go_loopw [7] (fun i wr => ∃ (k : Nat) (v : Value), k ≤ m.filled.length ∧ i = .int .i64 (k : Int) ∧ Hid (Ob KFr 50 g3 B4 (fun v => mcf m ((((((((nil8).ata v1x)).ati v2x)).ath v3x)).atf v)) wr v (m.filled.take k))) (fun i _ => (m.filled.length - intOf i).toNat)
              case atStart => exact ⟨0, _, Nat.zero_le _, rfl, E4⟩
              case round =>
                clear E4
                obtain ⟨k, v, hk, rfl, J⟩ := hrel
                have c1 := CC4.out wr J.out.fr
                by_cases hlt : k < m.filled.length
                · have h1 : (k : Int) < (m.filled.length : Int) := by omega
                  have h2 : (0 : Int) ≤ (k : Int) := by omega
                  have h63 : m.filled.length < 4611686018427387904 := HZ.out.fit.f
                  have e1 : IntKind.i64.wrap ((k : Int) + 1) = k + 1 := wrapI _ (by omega) (by omega)
                  have SZ : Hid (((m.filled.take k).length + 1) * KFr.b ≤ 140737488355328 ∧ (m.filled.take k).length + 1 ≤ maxLen) := by
                    have z := HZ.out.f
                    rw [List.length_take, Nat.min_eq_left hk]
                    exact ⟨show (k + 1) * 24 ≤ _ by omega, show k + 1 ≤ 9223372036854775807 by omega⟩
                  have KK := hide (And.intro (show k + 1 ≤ m.filled.length by omega) (show ((m.filled.length : Int) - ((k : Int) + 1)).toNat < ((m.filled.length : Int) - (k : Int)).toNat by omega))
                  have HT := hide (List.take_append_getElem hlt)
                  obtain ⟨ga, oa, rfl⟩ := (LX4.out wr J.out.fr).base (by omega)
                  have RG : Hid (∀ W, Rfr g3 B4 W → W.rangeAt ga (oa + k * 2) (KF.enc m.filled[k])) := fun W fr => (LX4.out W fr).range k hlt
                  generalize m.filled[k] = x at *
                  generalize hL : m.filled.take k = L at *
                  generalize hL1 : m.filled.take (k + 1) = L1 at *
                  generalize m.filled.length = ln at *
                  have HL1 := hide hL1
                  clear hL hL1 hlt hk h63
                  go_upto_region 17 with fail
                  refine wp_region_held_drew (S := Rfr g3 B4) (by kernel_rfl) (J.out.fr.trans (Rfr.drew _ _)) (fun hH => ?_)
                  refine wpAnyH_take (i := 0) (v := (.pointer (some ⟨g3, 118, none⟩))) rfl (by kernel_rfl) (by kernel_rfl) (by kernel_rfl) (fun _ _ _ h => h) (.inl ⟨by rfl, fun W _ => by go_simp⟩) hH ?_
                  change wpAnyH _ _ _ _ _ _ _ (Act.put _ (some 108) _) _
                  simp only [Act.put, List.setIfInBounds_toArray, List.set_cons_zero, List.set_cons_succ]
                  refine wpAnyH_take (i := 2) (v := (.pointer (some ⟨w.heap.size, 118, none⟩))) rfl (by kernel_rfl) (by kernel_rfl) (by kernel_rfl) (fun _ _ _ h => h) (.inl ⟨by rfl, fun W _ => by go_simp⟩) hH ?_
                  change wpAnyH _ _ _ _ _ _ _ (Act.put _ (some 110) _) _
                  simp only [Act.put, List.setIfInBounds_toArray, List.set_cons_zero, List.set_cons_succ]
                  refine wpAnyH_take (i := 3) (v := (.slice (some ⟨ga, oa, none⟩) ln ca4)) rfl (by kernel_rfl) (by kernel_rfl) (by kernel_rfl) (fun _ _ _ h => h) (.inl ⟨by rfl, fun W hS => by have c4 := CC4.out W hS; go_simp⟩) hH ?_
                  change wpAnyH _ _ _ _ _ _ _ (Act.put _ (some 111) _) _
                  simp only [Act.put, List.setIfInBounds_toArray, List.set_cons_zero, List.set_cons_succ]
                  refine wpAnyH_take (i := 4) (v := (.int .i64 (k : Int))) rfl (by kernel_rfl) (by kernel_rfl) (by kernel_rfl) (fun _ _ _ h => h) (yl_move (by rfl) _ (by rfl) _ (by rfl)) hH ?_
                  change wpAnyH _ _ _ _ _ _ _ (Act.put _ (some 112) _) _
                  simp only [Act.put, List.setIfInBounds_toArray, List.set_cons_zero, List.set_cons_succ]
                  refine wpAnyH_take (i := 5) (v := (.pointer (some ⟨ga, oa + k * 2, none⟩))) rfl (by kernel_rfl) (by kernel_rfl) (by kernel_rfl) (fun _ _ _ h => h) (.inl ⟨by rfl, fun W _ => by go_simp⟩) hH ?_
                  change wpAnyH _ _ _ _ _ _ _ (Act.put _ (some 113) _) _
                  simp only [Act.put, List.setIfInBounds_toArray, List.set_cons_zero, List.set_cons_succ]
                  refine wpAnyH_take (i := 6) (v := (.pointer (some ⟨ga, oa + k * 2, none⟩))) rfl (by kernel_rfl) (by kernel_rfl) (by kernel_rfl) (fun _ _ _ h => h) (.inl ⟨by rfl, fun W _ => by go_simp⟩) hH ?_
                  change wpAnyH _ _ _ _ _ _ _ (Act.put _ (some 114) _) _
                  simp only [Act.put, List.setIfInBounds_toArray, List.set_cons_zero, List.set_cons_succ]
                  refine wpAnyH_take (i := 7) (v := (.int .i64 x.place)) rfl (by kernel_rfl) (by kernel_rfl) (by kernel_rfl) (fun _ _ _ h => h) (.inl ⟨by rfl, fun W hS => by have c4 : W.cell? ⟨ga, oa + k * 2, none⟩ = some (.int .i64 x.place) := RG.out W hS 0 _ rfl; go_simp⟩) hH ?_
                  change wpAnyH _ _ _ _ _ _ _ (Act.put _ (some 115) _) _
                  simp only [Act.put, List.setIfInBounds_toArray, List.set_cons_zero, List.set_cons_succ]
                  refine wpAnyH_take (i := 8) (v := (.pointer (some ⟨w.heap.size, 118, none⟩))) rfl (by kernel_rfl) (by kernel_rfl) (by kernel_rfl) (fun _ _ _ h => h) (.inl ⟨by rfl, fun W _ => by go_simp⟩) hH ?_
                  change wpAnyH _ _ _ _ _ _ _ (Act.put _ (some 116) _) _
                  simp only [Act.put, List.setIfInBounds_toArray, List.set_cons_zero, List.set_cons_succ]
                  refine wpAnyH_take (i := 9) (v := (.slice (some ⟨ga, oa, none⟩) ln ca4)) rfl (by kernel_rfl) (by kernel_rfl) (by kernel_rfl) (fun _ _ _ h => h) (.inl ⟨by rfl, fun W hS => by have c4 := CC4.out W hS; go_simp⟩) hH ?_
                  change wpAnyH _ _ _ _ _ _ _ (Act.put _ (some 117) _) _
                  simp only [Act.put, List.setIfInBounds_toArray, List.set_cons_zero, List.set_cons_succ]
                  refine wpAnyH_take (i := 10) (v := (.int .i64 (k : Int))) rfl (by kernel_rfl) (by kernel_rfl) (by kernel_rfl) (fun _ _ _ h => h) (yl_move (by rfl) _ (by rfl) _ (by rfl)) hH ?_
                  change wpAnyH _ _ _ _ _ _ _ (Act.put _ (some 118) _) _
                  simp only [Act.put, List.setIfInBounds_toArray, List.set_cons_zero, List.set_cons_succ]
                  refine wpAnyH_take (i := 11) (v := (.pointer (some ⟨ga, oa + k * 2, none⟩))) rfl (by kernel_rfl) (by kernel_rfl) (by kernel_rfl) (fun _ _ _ h => h) (.inl ⟨by rfl, fun W _ => by go_simp⟩) hH ?_
                  change wpAnyH _ _ _ _ _ _ _ (Act.put _ (some 119) _) _
                  simp only [Act.put, List.setIfInBounds_toArray, List.set_cons_zero, List.set_cons_succ]
                  refine wpAnyH_take (i := 12) (v := (.pointer (some ⟨ga, oa + k * 2 + 1, none⟩))) rfl (by kernel_rfl) (by kernel_rfl) (by kernel_rfl) (fun _ _ _ h => h) (.inl ⟨by rfl, fun W _ => by go_simp⟩) hH ?_
                  change wpAnyH _ _ _ _ _ _ _ (Act.put _ (some 120) _) _
                  simp only [Act.put, List.setIfInBounds_toArray, List.set_cons_zero, List.set_cons_succ]
                  refine wpAnyH_take (i := 13) (v := (.string x.raw)) rfl (by kernel_rfl) (by kernel_rfl) (by kernel_rfl) (fun _ _ _ h => h) (.inl ⟨by rfl, fun W hS => by have c4 : W.cell? ⟨ga, oa + k * 2 + 1, none⟩ = some (.string x.raw) := RG.out W hS 1 _ rfl; go_simp⟩) hH ?_
                  change wpAnyH _ _ _ _ _ _ _ (Act.put _ (some 121) _) _
                  simp only [Act.put, List.setIfInBounds_toArray, List.set_cons_zero, List.set_cons_succ]
                  refine wpAnyH_take (i := 14) (v := (.agg x.cells.toArray)) rfl (by kernel_rfl) (by kernel_rfl) (by kernel_rfl) (fun _ _ _ h => h) (yl_build (by rfl) _ (by rfl) #[(0, .int .i64 x.place), (1, .string x.raw)] _ (by simp only [List.map_toArray, List.map_cons, List.map_nil]; rfl) (fun W => run_bldF x W)) hH ?_
                  change wpAnyH _ _ _ _ _ _ _ (Act.put _ (some 122) _) _
                  simp only [Act.put, List.setIfInBounds_toArray, List.set_cons_zero, List.set_cons_succ]
                  have JD := hide (J.out.next ((Below.refl _ _).drew))
                  generalize wr.drew = W1 at *
                  clear J c1
                  refine wpAnyH_ready (rs := [1, 15]) (by kernel_rfl) (by simp) (AllReadyH.cons rfl (fun K1 hK1 => ?_) (AllReadyH.cons rfl (fun K1 hK1 => ?_) AllReadyH.nil))
                  · have x4 : W1.cell? ⟨g3, 118, none⟩ = some v := (World.rowIs.cell JD.out.row (i := 118) (by decide)).trans (congrArg some (mcv_f m _))
                    go_simp
                    refine hK1.out _ _ JD.out.fr (fun hH => ?_)
                    clear hK1 x4
                    refine wpAnyH_ready (rs := [15]) (by kernel_rfl) (by simp) (AllReadyH.cons rfl (fun K1 hK1 => ?_) AllReadyH.nil)
                    · refine Ek.stepBs1 KFr (by rfl) _ (by rfl) x (by rfl) ?_
                      have J3 := hide (JD.out.next ((Below.refl _ _).alloc (Nat.le_refl _) (.cells (KFr.enc x).toArray KFr.e)))
                      have N3 := hide (one_newX (E := KFr) W1 x)
                      refine hK1.out _ _ J3.out.fr (fun hH => ?_)
                      clear hK1
                      change wpAnyH _ _ _ _ _ _ _ (Act.put _ (some 123) _) _
                      simp only [Act.put, List.setIfInBounds_toArray, List.set_cons_zero, List.set_cons_succ]
                      generalize W1.alloc (.cells (KFr.enc x).toArray KFr.e) = W3 at *
                      generalize W1.heap.size = gb at *
                      refine wpAnyH_ready (rs := [16]) (by kernel_rfl) (by simp) (AllReadyH.cons rfl (fun K1 hK1 => ?_) AllReadyH.nil)
                      refine Ek.stepApp KFr (by rfl) _ _ (by rfl) v L (by rfl) J3.out.ox ⟨gb, 0, none⟩ x (by rfl) N3.out SZ.out.1 SZ.out.2 ?_
                      intro v5 w5 o5 on5
                      have o6 := o5
                      rw [HT.out] at o6
                      obtain ⟨ao5, c5, rfl⟩ := o6.form
                      clear o6
                      have FO := hide (J3.out.frO on5)
                      have f4 := World.rowIs.frozen FO.out.2 118
                      have y4 := World.rowIs.cell FO.out.2 (i := 118) (by decide)
                      have J5 := hide (J3.out.put o5 on5 118 (mcf_f m ((((((((nil8).ata v1x)).ati v2x)).ath v3x)).atf v) _))
                      clear o5 on5
                      refine hK1.out _ _ FO.out.1 (fun hH => ?_)
                      clear hK1
                      change wpAnyH _ _ _ _ _ _ _ (Act.put _ (some 124) _) _
                      simp only [Act.put, List.setIfInBounds_toArray, List.set_cons_zero, List.set_cons_succ]
                      refine wpAnyH_take (i := 17) (v := (.pointer (some ⟨g3, 118, none⟩))) rfl (by kernel_rfl) (by kernel_rfl) (by kernel_rfl) (fun _ _ _ h => h) (.inl ⟨by rfl, fun W _ => by go_simp⟩) hH ?_
                      change wpAnyH _ _ _ _ _ _ _ (Act.put _ (some 125) _) _
                      simp only [Act.put, List.setIfInBounds_toArray, List.set_cons_zero, List.set_cons_succ]
                      refine wpAnyH_ready (rs := [18]) (by kernel_rfl) (by simp) (AllReadyH.cons rfl (fun K1 hK1 => ?_) AllReadyH.nil)
                      go_simp
                      refine hK1.out _ _ J5.out.fr (fun hH => ?_)
                      clear hK1
                      refine wpAnyH_done (by kernel_rfl) ?_ _
                      rw [HT.out] at J5
                      go_wp2
                      exact ⟨⟨k + 1, _, KK.out.1, by go_num, by rw [HL1.out]; exact J5⟩, by simpa [intOf] using KK.out.2⟩
                  · refine Ek.stepBs1 KFr (by rfl) _ (by rfl) x (by rfl) ?_
                    have J2 := hide (JD.out.next ((Below.refl _ _).alloc (Nat.le_refl _) (.cells (KFr.enc x).toArray KFr.e)))
                    have N2 := hide (one_newX (E := KFr) W1 x)
                    refine hK1.out _ _ J2.out.fr (fun hH => ?_)
                    clear hK1
                    change wpAnyH _ _ _ _ _ _ _ (Act.put _ (some 123) _) _
                    simp only [Act.put, List.setIfInBounds_toArray, List.set_cons_zero, List.set_cons_succ]
                    generalize W1.alloc (.cells (KFr.enc x).toArray KFr.e) = W2 at *
                    generalize W1.heap.size = gb at *
                    refine wpAnyH_ready (rs := [1]) (by kernel_rfl) (by simp) (AllReadyH.cons rfl (fun K1 hK1 => ?_) AllReadyH.nil)
                    · have x4 : W2.cell? ⟨g3, 118, none⟩ = some v := (World.rowIs.cell J2.out.row (i := 118) (by decide)).trans (congrArg some (mcv_f m _))
                      go_simp
                      refine hK1.out _ _ J2.out.fr (fun hH => ?_)
                      clear hK1 x4
                      refine wpAnyH_ready (rs := [16]) (by kernel_rfl) (by simp) (AllReadyH.cons rfl (fun K1 hK1 => ?_) AllReadyH.nil)
                      refine Ek.stepApp KFr (by rfl) _ _ (by rfl) v L (by rfl) J2.out.ox ⟨gb, 0, none⟩ x (by rfl) N2.out SZ.out.1 SZ.out.2 ?_
                      intro v5 w5 o5 on5
                      have o6 := o5
                      rw [HT.out] at o6
                      obtain ⟨ao5, c5, rfl⟩ := o6.form
                      clear o6
                      have FO := hide (J2.out.frO on5)
                      have f4 := World.rowIs.frozen FO.out.2 118
                      have y4 := World.rowIs.cell FO.out.2 (i := 118) (by decide)
                      have J5 := hide (J2.out.put o5 on5 118 (mcf_f m ((((((((nil8).ata v1x)).ati v2x)).ath v3x)).atf v) _))
                      clear o5 on5
                      refine hK1.out _ _ FO.out.1 (fun hH => ?_)
                      clear hK1
                      change wpAnyH _ _ _ _ _ _ _ (Act.put _ (some 124) _) _
                      simp only [Act.put, List.setIfInBounds_toArray, List.set_cons_zero, List.set_cons_succ]
                      refine wpAnyH_take (i := 17) (v := (.pointer (some ⟨g3, 118, none⟩))) rfl (by kernel_rfl) (by kernel_rfl) (by kernel_rfl) (fun _ _ _ h => h) (.inl ⟨by rfl, fun W _ => by go_simp⟩) hH ?_
                      change wpAnyH _ _ _ _ _ _ _ (Act.put _ (some 125) _) _
                      simp only [Act.put, List.setIfInBounds_toArray, List.set_cons_zero, List.set_cons_succ]
                      refine wpAnyH_ready (rs := [18]) (by kernel_rfl) (by simp) (AllReadyH.cons rfl (fun K1 hK1 => ?_) AllReadyH.nil)
                      go_simp
                      refine hK1.out _ _ J5.out.fr (fun hH => ?_)
                      clear hK1
                      refine wpAnyH_done (by kernel_rfl) ?_ _
                      rw [HT.out] at J5
                      go_wp2
                      exact ⟨⟨k + 1, _, KK.out.1, by go_num, by rw [HL1.out]; exact J5⟩, by simpa [intOf] using KK.out.2⟩
                · have h1 : ¬ (k : Int) < (m.filled.length : Int) := by omega
                  have J9 : Hid (Ob KFr 50 g3 B4 (fun v => mcf m ((((((((nil8).ata v1x)).ati v2x)).ath v3x)).atf v)) wr v m.filled) := by
                    have := J.out
                    rw [List.take_of_length_le (by omega)] at this
                    exact this
                  have R4 := hide (Rb.endf R3.out J9.out)
                  clear J J9 hlt hk CC4 LX4 R3
                  -- exit 4
                  go_upto_region 18 with fail
                  clear c1 h1
                  generalize wr = B5 at *
                  generalize v = v4x at *
                  have E5 := hide (Rb.beghd R4.out rfl)
                  obtain ⟨ao5, ca5, ea5⟩ := HM.out.hd.form
                  have c1 : B5.cell? ⟨w.heap.size, 114, none⟩ = some (.slice ao5 m.heads.length ca5) := by
                    rw [← ea5, ← mcv_hd m s]
                    exact World.rowIs.cell R4.out.r1 (by decide)
                  have c3 : B5.cell? ⟨g3, 114, none⟩ = some (.slice none 0 0) := (World.rowIs.cell R4.out.r3 (i := 114) (by decide)).trans (congrArg some (mcv_hd m _))
                  have LX5 : Hid (LX KS B5 (.slice ao5 m.heads.length ca5) m.heads) := by
                    show LX _ _ _ _
                    rw [← ea5]
                    exact HM.out.hd.below R4.out.bel
                  have SZ : Hid (m.heads.length * KS.b ≤ 140737488355328 ∧ m.heads.length ≤ maxLen) := by
                    have z := HZ.out.hd
                    exact ⟨z, show m.heads.length ≤ 9223372036854775807 by omega⟩
                  clear ea5
                  go_upto_region 19 with (at_builtin; refine Ek.wpAll KS rfl _ _ rfl rfl _ m.heads rfl LX5.out SZ.out.1 SZ.out.2 (fun c => nilnilS _ _ c) ?_; intro v5 w5 o5 on5; obtain ⟨ao5, c5, rfl⟩ := o5.form; have FO := hide (E5.out.frO on5); have f4 := World.rowIs.frozen FO.out.2 114; have y4 := World.rowIs.cell FO.out.2 (i := 114) (by decide); have J5 := hide (E5.out.put o5 on5 114 (mcf_hd m _ _)); clear o5 on5)
                  have R5 := hide (Rb.endhd R4.out J5.out)
                  clear R4 J5 FO f4 y4 c1 c3 LX5 SZ E5
                  generalize (w5.setCell ⟨g3, 114, none⟩ (.slice ao5 m.heads.length c5)) = B6 at *
                  generalize (Value.slice ao5 m.heads.length c5) = v5x at *
                  have E6 := hide (Rb.begsh R5.out rfl)
                  obtain ⟨ao6, ca6, ea6⟩ := HM.out.sh.form
                  have c1 : B6.cell? ⟨w.heap.size, 117, none⟩ = some (.slice ao6 m.shorts.length ca6) := by
                    rw [← ea6, ← mcv_sh m s]
                    exact World.rowIs.cell R5.out.r1 (by decide)
                  have c3 : B6.cell? ⟨g3, 117, none⟩ = some (.slice none 0 0) := (World.rowIs.cell R5.out.r3 (i := 117) (by decide)).trans (congrArg some (mcv_sh m _))
                  have LX6 : Hid (LX KU B6 (.slice ao6 m.shorts.length ca6) m.shorts) := by
                    show LX _ _ _ _
                    rw [← ea6]
                    exact HM.out.sh.below R5.out.bel
                  have SZ : Hid (m.shorts.length * KU.b ≤ 140737488355328 ∧ m.shorts.length ≤ maxLen) := by
                    have z := HZ.out.sh
                    exact ⟨z, show m.shorts.length ≤ 9223372036854775807 by omega⟩
                  clear ea6
                  go_upto_region 20 with (at_builtin; refine Ek.wpAll KU rfl _ _ rfl rfl _ m.shorts rfl LX6.out SZ.out.1 SZ.out.2 (fun c => nilnilU _ _ c) ?_; intro v5 w5 o5 on5; obtain ⟨ao5, c5, rfl⟩ := o5.form; have FO := hide (E6.out.frO on5); have f4 := World.rowIs.frozen FO.out.2 117; have y4 := World.rowIs.cell FO.out.2 (i := 117) (by decide); have J5 := hide (E6.out.put o5 on5 117 (mcf_sh m _ _)); clear o5 on5)
                  have R6 := hide (Rb.endsh R5.out J5.out)
                  clear R5 J5 FO f4 y4 c1 c3 LX6 SZ E6
                  generalize (w5.setCell ⟨g3, 117, none⟩ (.slice ao5 m.shorts.length c5)) = B7 at *
                  generalize (Value.slice ao5 m.shorts.length c5) = v6x at *
                  have E7 := hide (Rb.begp R6.out rfl)
                  obtain ⟨ao7, ca7, ea7⟩ := HM.out.p.form
                  have c1 : B7.cell? ⟨w.heap.size, 119, none⟩ = some (.slice ao7 m.places.length ca7) := by
                    rw [← ea7, ← mcv_p m s]
                    exact World.rowIs.cell R6.out.r1 (by decide)
                  have c3 : B7.cell? ⟨g3, 119, none⟩ = some (.slice none 0 0) := (World.rowIs.cell R6.out.r3 (i := 119) (by decide)).trans (congrArg some (mcv_p m _))
                  have LX7 : Hid (LX KP B7 (.slice ao7 m.places.length ca7) m.places) := by
                    show LX _ _ _ _
                    rw [← ea7]
                    exact HM.out.p.below R6.out.bel
                  have SZ : Hid (m.places.length * KP.b ≤ 140737488355328 ∧ m.places.length ≤ maxLen) := by
                    have z := HZ.out.p
                    exact ⟨z, show m.places.length ≤ 9223372036854775807 by omega⟩
                  clear ea7
                  go_upto_region 21 with (at_builtin; refine Ek.wpAll KP rfl _ _ rfl rfl _ m.places rfl LX7.out SZ.out.1 SZ.out.2 (fun c => nilnilP _ _ c) ?_; intro v5 w5 o5 on5; obtain ⟨ao5, c5, rfl⟩ := o5.form; have FO := hide (E7.out.frO on5); have f4 := World.rowIs.frozen FO.out.2 119; have y4 := World.rowIs.cell FO.out.2 (i := 119) (by decide); have J5 := hide (E7.out.put o5 on5 119 (mcf_p m _ _)); clear o5 on5)
                  have R7 := hide (Rb.endp R6.out J5.out)
                  clear R6 J5 FO f4 y4 c1 c3 LX7 SZ E7
                  generalize (w5.setCell ⟨g3, 119, none⟩ (.slice ao5 m.places.length c5)) = B8 at *
                  generalize (Value.slice ao5 m.places.length c5) = v7x at *
                  have E8 := hide (Rb.begr R7.out rfl)
                  obtain ⟨ao8, ca8, ea8⟩ := HM.out.r.form
                  have c1 : B8.cell? ⟨w.heap.size, 120, none⟩ = some (.slice ao8 m.raws.length ca8) := by
                    rw [← ea8, ← mcv_r m s]
                    exact World.rowIs.cell R7.out.r1 (by decide)
                  have c3 : B8.cell? ⟨g3, 120, none⟩ = some (.slice none 0 0) := (World.rowIs.cell R7.out.r3 (i := 120) (by decide)).trans (congrArg some (mcv_r m _))
                  have LX8 : Hid (LX KS B8 (.slice ao8 m.raws.length ca8) m.raws) := by
                    show LX _ _ _ _
                    rw [← ea8]
                    exact HM.out.r.below R7.out.bel
                  have SZ : Hid (m.raws.length * KS.b ≤ 140737488355328 ∧ m.raws.length ≤ maxLen) := by
                    have z := HZ.out.r
                    exact ⟨z, show m.raws.length ≤ 9223372036854775807 by omega⟩
                  clear ea8
                  go_upto_region 22 with (at_builtin; refine Ek.wpAll KS rfl _ _ rfl rfl _ m.raws rfl LX8.out SZ.out.1 SZ.out.2 (fun c => nilnilS _ _ c) ?_; intro v5 w5 o5 on5; obtain ⟨ao5, c5, rfl⟩ := o5.form; have FO := hide (E8.out.frO on5); have f4 := World.rowIs.frozen FO.out.2 120; have y4 := World.rowIs.cell FO.out.2 (i := 120) (by decide); have J5 := hide (E8.out.put o5 on5 120 (mcf_r m _ _)); clear o5 on5)
                  have R8 := hide (Rb.endr R7.out J5.out)
                  clear R7 J5 FO f4 y4 c1 c3 LX8 SZ E8
                  generalize (w5.setCell ⟨g3, 120, none⟩ (.slice ao5 m.raws.length c5)) = B9 at *
                  generalize (Value.slice ao5 m.raws.length c5) = v8x at *
                  have OK := hide (R8.out.ok)
                  have FF := hide (R8.out.fin rfl rfl rfl rfl rfl rfl rfl rfl)
                  have R3 := hide (mcf_row m _ R8.out.r3)
                  have R2 := hide R8.out.r2
                  clear R8
                  generalize ((((((((((((((((nil8).ata v1x)).ati v2x)).ath v3x)).atf v4x)).athd v5x)).atsh v6x)).atp v7x)).atr v8x) = so at *
                  go_wp2_with ((with_reducible refine at_list ?_); first | refine wpList_loadS AMr _ rfl g3 rfl (m.cells so).toArray (m.size so) 50 R3.out rfl ?_ | refine wpList_storeA AMr rfl _ _ rfl (w.heap.size + 1) (m.cells so).toArray (m.size so) (m.one so OK.out) rfl rfl (zM.cells nil8).toArray (zM.size nil8) 50 R2.out ?_)
                  refine bodyPost_ret (resA AMr rfl _ _ _ _ (m.cells so).toArray (m.size so) rfl FF.out.2.2) rfl ?_
                  exact ⟨so, rfl, FF.out.1, FF.out.2.1⟩
end
end Go.Proofs.YtkoidjaaojmcnaaGreat
