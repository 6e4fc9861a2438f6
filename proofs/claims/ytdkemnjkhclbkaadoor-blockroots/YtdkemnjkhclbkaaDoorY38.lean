/- The law's one: its contract. -/
import Derived.Test.YtdkemnjkhclbkaaDoorY37
import Derived.Test.YtdkemnjkhclbkaaDoorY13
namespace Go.Proofs.YtdkemnjkhclbkaaDoor
open Go.RowKit
open Go.Deep
set_option linter.unusedVariables false
theorem Ti.seqR {W : World} {g off : Nat} (x : Ti) (h : W.rangeAt g off x.cells) : W.cell? ⟨g, off + 34, none⟩ = some (.int .u32 (x.seq.toNat : Int)) := h 34 _ (by rw [← List.getElem?_toArray]; exact x.at34)
theorem Ti.keyR' {W : World} {g off : Nat} (x : Ti) (h : W.rangeAt g off x.cells) : W.cell? ⟨g, off + 33, none⟩ = some (.string x.key) := h 33 _ (by rw [← List.getElem?_toArray]; exact x.at33)
theorem Tu.valR {W : World} {g off : Nat} (x : Tu) (h : W.rangeAt g off x.cells) : W.cell? ⟨g, off, none⟩ = some (.int .u64 (x.val.toNat : Int)) := h 0 _ rfl
theorem Tu.lockR {W : World} {g off : Nat} (x : Tu) (h : W.rangeAt g off x.cells) : W.cell? ⟨g, off + 1, none⟩ = some (.string x.lock) := h 1 _ rfl
theorem bld_Or (x : Tu) (W : World) : (Instr.build 69 #[(0, .int .u64 (x.val.toNat : Int)), (1, .string x.lock)]).run Tryd.prog W = .ok (.agg x.cells.toArray) W := by kernel_rfl
theorem ld25_mid {W : World} {g off : Nat} {y : List UInt8} (hy : y.length = 32) (hr : W.rangeAt g off (cellsL y)) : (Instr.loadAt 24 (.pointer (some ⟨g, off, none⟩))).run Tryd.prog W = .ok (.agg (hc y)) W :=
  run_loadAt_mid W g off 24 _ _ hr Tryd.underlying24 rfl (by rw [cellsL_len, hy]; kernel_rfl)
section
set_option maxRecDepth 10000
set_option maxHeartbeats 4000000
theorem one_far (m : Tm) (ai : Option Addr) (ci : Nat) (ao : Option Addr) (co : Nat) (w : World) (hl : LT w m ai ci ao co) (hf : m.fit) : Calls Tryd.prog 14 #[.agg (m.cells ai ci ao co)] w fun e w' => ∃ (bi : Option Addr) (di : Nat) (bo : Option Addr) (d0 : Nat), e = .returned (.agg (m.cells bi di bo d0)) ∧ (∀ W' : World, (∀ g, w.heap.size ≤ g → g < w'.heap.size → W'.heap[g]? = w'.heap[g]?) → LR W' m bi di bo d0) ∧ Below w.heap.size w w' := by
  obtain ⟨x0, x1, x2⟩ := blk3 w (.cells (m.cells ai ci ao co) 47) (.cells (zT.cells none 0 none 0) 59) (.cells ((⟨m.ver, [], [], m.time⟩ : Tm).cells none 0 none 0) 59)
  have b3 := below3 w (.cells (m.cells ai ci ao co) 47) (.cells (zT.cells none 0 none 0) 59) (.cells ((⟨m.ver, [], [], m.time⟩ : Tm).cells none 0 none 0) 59)
  have G0 : Hid (Gv w _ (m.cells ai ci ao co) ⟨m.ver, [], [], m.time⟩ none 0 none 0) := ⟨b3, x0, x1, x2, OX.nil _, (fun g hg => by cases hg), OX.nil _, (fun g hg => by cases hg)⟩
  have y0 := heap_alloc_last w (.cells (m.cells ai ci ao co) 47)
  have y1 := (Below.heap_alloc _ (.cells (zT.cells none 0 none 0) 59) _ (lt_heap y0)).trans y0
  have c0 : ((w.alloc (.cells (m.cells ai ci ao co) 47)).alloc (.cells (zT.cells none 0 none 0) 59)).cell? ⟨w.heap.size, 0, none⟩ = some (.int .u32 (m.ver.toNat : Int)) := by rw [cell_of_row _ _ _ _ _ _ y1]; rfl
  have c3 : ((w.alloc (.cells (m.cells ai ci ao co) 47)).alloc (.cells (zT.cells none 0 none 0) 59)).cell? ⟨w.heap.size, 3, none⟩ = some (.int .u32 (m.time.toNat : Int)) := by rw [cell_of_row _ _ _ _ _ _ y1]; rfl
  have HL := hide hl
  have HF := hide hf
  have sz1 : (w.alloc (.cells (m.cells ai ci ao co) 47)).heap.size = w.heap.size + 1 := by simp
  have sz2 : ((w.alloc (.cells (m.cells ai ci ao co) 47)).alloc (.cells (zT.cells none 0 none 0) 59)).heap.size = w.heap.size + 1 + 1 := by simp
  have CC : Hid (∀ W (p : Tm) (bi : Option Addr) (di : Nat) (bo : Option Addr) (d0 : Nat), Gv w W (m.cells ai ci ao co) p bi di bo d0 → (W.cell? ⟨w.heap.size, 1, none⟩ = some (.slice ai m.ins.length ci) ∧ W.cell? ⟨w.heap.size, 2, none⟩ = some (.slice ao m.outs.length co)) ∧ LT W m ai ci ao co) := fun W p bi di bo d0 j => ⟨⟨by rw [cell_of_row _ _ _ _ _ _ j.r0]; rfl, by rw [cell_of_row _ _ _ _ _ _ j.r0]; rfl⟩, HL.out.below j.bel⟩
  have RC : Hid (∀ W : World, W.heap[w.heap.size]? = some (.cells (m.cells ai ci ao co) 47 (0, 0)) → W.cell? ⟨w.heap.size, 1, none⟩ = some (.slice ai m.ins.length ci) ∧ W.cell? ⟨w.heap.size, 2, none⟩ = some (.slice ao m.outs.length co)) := fun W e => ⟨by rw [cell_of_row _ _ _ _ _ _ e]; rfl, by rw [cell_of_row _ _ _ _ _ _ e]; rfl⟩
  clear hl hf x0 x1 x2 b3 y0 y1
  generalize m.cells ai ci ao co = C at *
  go_enter Tryd.func14, Tryd.ntmps14
  go_upto_region 1 with ((with_reducible refine at_list ?_); first | refine wpList_boxA rfl _ rfl C rfl ?_ | refine wpList_allocA ATr rfl rfl ?_)
  try rw [sz1]
  generalize hW : (w.alloc (.cells C 47)).alloc (.cells (zT.cells none 0 none 0) 59) = W0 at *
  go_upto_region 2 with ((with_reducible refine at_list ?_); first | refine wpList_bldX rfl _ rfl #[(0, .int .u32 (m.ver.toNat : Int)), (3, .int .u32 (m.time.toNat : Int))] ((⟨m.ver, [], [], m.time⟩ : Tm).cells none 0 none 0) (by rfl) (bld_Tx m.ver m.time) ?_ | refine wpList_allocA ATr rfl rfl ?_ | refine wpList_store_newA ATr rfl _ _ rfl _ rfl ((⟨m.ver, [], [], m.time⟩ : Tm).cells none 0 none 0) rfl (Tm.one _ _ _ _ _) rfl rfl ?_)
  try rw [sz2]
  clear c0 c3 hW sz1 sz2
  generalize W0.alloc (.cells ((⟨m.ver, [], [], m.time⟩ : Tm).cells none 0 none 0) 59) = W1 at *
  simp only [Act.put, List.setIfInBounds_toArray, List.set_cons_zero, List.set_cons_succ]
  go_upto_region 3 with fail
  go_loopw [4] (fun i wr => ∃ (k : Nat) (bi : Option Addr) (di : Nat), k ≤ m.ins.length ∧ i = .int .i64 (k : Int) ∧ Hid (Gv w wr C ⟨m.ver, m.ins.take k, [], m.time⟩ bi di none 0)) (fun i _ => (m.ins.length - intOf i).toNat)
  case atStart => exact ⟨0, none, 0, Nat.zero_le _, rfl, G0.out⟩
  case round =>
    clear G0
    obtain ⟨k, bi, di, hk, rfl, J⟩ := hrel
    have c1 := (CC.out _ _ _ _ _ _ J.out).1.1
    by_cases hlt : k < m.ins.length
    · have _h0 := hlt
      have h1 : (k : Int) < (m.ins.length : Int) := by omega
      have h2 : (0 : Int) ≤ (k : Int) := by omega
      have h5 := HF.out.i
      have e1 : IntKind.i64.wrap ((k : Int) + 1) = k + 1 := wrapI _ (by omega) (by omega)
      have KK := hide (And.intro (show k + 1 ≤ m.ins.length by omega) (show ((m.ins.length : Int) - ((k : Int) + 1)).toNat < ((m.ins.length : Int) - (k : Int)).toNat by omega))
      obtain ⟨ga, oa, hga⟩ := HL.out.i.base (by omega)
      subst hga
      have RGW : Hid (∀ W, Below w.heap.size w W → W.rangeAt ga (oa + k * 35) m.ins[k].cells) := fun W b => (HL.out.below b).i.range k hlt
      have TK := hide (List.take_append_getElem hlt)
      have TL := hide (show (m.ins.take k).length ≤ k by rw [List.length_take]; omega)
      have KB := hide (show (k + 1) * 64 ≤ 140737488355328 by omega)
      generalize m.ins[k] = x at *
      generalize hp : m.ins.take k = P at *
      clear hk hlt h5 hp
      clear _h0
      go_upto_region 5 with fail
      clear c1 CC
      have J1 := hide (J.out.next (Below.refl wr.heap.size wr).drew)
      have SX : Hid (∀ W : World, Below w.heap.size w W → W.heap[w.heap.size]? = some (.cells C 47 (0, 0)) → W.heap[w.heap.size]? = some (.cells C 47 (0, 0)) ∧ W.rangeAt ga (oa + k * 35) x.cells) := fun W b e => ⟨e, RGW.out W b⟩
      refine wp_region_held_drew (S := fun W => W.heap[w.heap.size]? = some (.cells C 47 (0, 0)) ∧ W.rangeAt ga (oa + k * 35) x.cells) (by kernel_rfl) (SX.out _ J1.out.bel J1.out.r0) (fun hH => ?_)
      generalize hWd : wr.drew = V1 at *
      clear hWd
      refine wpAnyH_take (i := 0) (v := (.pointer (some ⟨w.heap.size + 1 + 1, 1, none⟩))) rfl (by kernel_rfl) (by kernel_rfl) (by kernel_rfl) (fun _ _ _ h => h) (.inl ⟨by rfl, fun W _ => by go_simp⟩) hH ?_
      change wpAnyH _ _ _ _ _ _ _ (Act.put _ (some 18) _) _
      simp only [Act.put, List.setIfInBounds_toArray, List.set_cons_zero, List.set_cons_succ]
      refine wpAnyH_take (i := 2) (v := (.pointer (some ⟨w.heap.size, 1, none⟩))) rfl (by kernel_rfl) (by kernel_rfl) (by kernel_rfl) (fun _ _ _ h => h) (.inl ⟨by rfl, fun W _ => by go_simp⟩) hH ?_
      change wpAnyH _ _ _ _ _ _ _ (Act.put _ (some 20) _) _
      simp only [Act.put, List.setIfInBounds_toArray, List.set_cons_zero, List.set_cons_succ]
      refine wpAnyH_take (i := 3) (v := (.slice (some ⟨ga, oa, none⟩) m.ins.length ci)) rfl (by kernel_rfl) (by kernel_rfl) (by kernel_rfl) (fun _ _ _ h => h) (.inl ⟨by rfl, fun W hS => by have c4 := (RC.out W hS.1).1; go_simp⟩) hH ?_
      change wpAnyH _ _ _ _ _ _ _ (Act.put _ (some 21) _) _
      simp only [Act.put, List.setIfInBounds_toArray, List.set_cons_zero, List.set_cons_succ]
      refine wpAnyH_take (i := 4) (v := (.int .i64 (k : Int))) rfl (by kernel_rfl) (by kernel_rfl) (by kernel_rfl) (fun _ _ _ h => h) (yl_move (by rfl) _ (by rfl) _ (by rfl)) hH ?_
      change wpAnyH _ _ _ _ _ _ _ (Act.put _ (some 22) _) _
      simp only [Act.put, List.setIfInBounds_toArray, List.set_cons_zero, List.set_cons_succ]
      refine wpAnyH_take (i := 5) (v := (.pointer (some ⟨ga, oa + k * 35, none⟩))) rfl (by kernel_rfl) (by kernel_rfl) (by kernel_rfl) (fun _ _ _ h => h) (.inl ⟨by rfl, fun W _ => by go_simp⟩) hH ?_
      change wpAnyH _ _ _ _ _ _ _ (Act.put _ (some 23) _) _
      simp only [Act.put, List.setIfInBounds_toArray, List.set_cons_zero, List.set_cons_succ]
      refine wpAnyH_take (i := 6) (v := (.pointer (some ⟨ga, oa + k * 35, none⟩))) rfl (by kernel_rfl) (by kernel_rfl) (by kernel_rfl) (fun _ _ _ h => h) (.inl ⟨by rfl, fun W _ => by go_simp⟩) hH ?_
      change wpAnyH _ _ _ _ _ _ _ (Act.put _ (some 24) _) _
      simp only [Act.put, List.setIfInBounds_toArray, List.set_cons_zero, List.set_cons_succ]
      refine wpAnyH_take (i := 7) (v := (.pointer (some ⟨ga, oa + k * 35, none⟩))) rfl (by kernel_rfl) (by kernel_rfl) (by kernel_rfl) (fun _ _ _ h => h) (.inl ⟨by rfl, fun W _ => by go_simp⟩) hH ?_
      change wpAnyH _ _ _ _ _ _ _ (Act.put _ (some 25) _) _
      simp only [Act.put, List.setIfInBounds_toArray, List.set_cons_zero, List.set_cons_succ]
      refine wpAnyH_take (i := 8) (v := (.agg (hc x.hash))) rfl (by kernel_rfl) (by kernel_rfl) (by kernel_rfl) (fun _ _ _ h => h) (yl_load (by rfl) _ (by rfl) _ (hc x.hash) (by rfl) (fun W hS => ld25_mid x.hh (x.hashR hS.2))) hH ?_
      change wpAnyH _ _ _ _ _ _ _ (Act.put _ (some 26) _) _
      simp only [Act.put, List.setIfInBounds_toArray, List.set_cons_zero, List.set_cons_succ]
      refine wpAnyH_take (i := 9) (v := (.pointer (some ⟨w.heap.size, 1, none⟩))) rfl (by kernel_rfl) (by kernel_rfl) (by kernel_rfl) (fun _ _ _ h => h) (.inl ⟨by rfl, fun W _ => by go_simp⟩) hH ?_
      change wpAnyH _ _ _ _ _ _ _ (Act.put _ (some 27) _) _
      simp only [Act.put, List.setIfInBounds_toArray, List.set_cons_zero, List.set_cons_succ]
      refine wpAnyH_take (i := 10) (v := (.slice (some ⟨ga, oa, none⟩) m.ins.length ci)) rfl (by kernel_rfl) (by kernel_rfl) (by kernel_rfl) (fun _ _ _ h => h) (.inl ⟨by rfl, fun W hS => by have c4 := (RC.out W hS.1).1; go_simp⟩) hH ?_
      change wpAnyH _ _ _ _ _ _ _ (Act.put _ (some 28) _) _
      simp only [Act.put, List.setIfInBounds_toArray, List.set_cons_zero, List.set_cons_succ]
      refine wpAnyH_take (i := 11) (v := (.int .i64 (k : Int))) rfl (by kernel_rfl) (by kernel_rfl) (by kernel_rfl) (fun _ _ _ h => h) (yl_move (by rfl) _ (by rfl) _ (by rfl)) hH ?_
      change wpAnyH _ _ _ _ _ _ _ (Act.put _ (some 29) _) _
      simp only [Act.put, List.setIfInBounds_toArray, List.set_cons_zero, List.set_cons_succ]
      refine wpAnyH_take (i := 12) (v := (.pointer (some ⟨ga, oa + k * 35, none⟩))) rfl (by kernel_rfl) (by kernel_rfl) (by kernel_rfl) (fun _ _ _ h => h) (.inl ⟨by rfl, fun W _ => by go_simp⟩) hH ?_
      change wpAnyH _ _ _ _ _ _ _ (Act.put _ (some 30) _) _
      simp only [Act.put, List.setIfInBounds_toArray, List.set_cons_zero, List.set_cons_succ]
      refine wpAnyH_take (i := 13) (v := (.pointer (some ⟨ga, oa + k * 35, none⟩))) rfl (by kernel_rfl) (by kernel_rfl) (by kernel_rfl) (fun _ _ _ h => h) (.inl ⟨by rfl, fun W _ => by go_simp⟩) hH ?_
      change wpAnyH _ _ _ _ _ _ _ (Act.put _ (some 31) _) _
      simp only [Act.put, List.setIfInBounds_toArray, List.set_cons_zero, List.set_cons_succ]
      refine wpAnyH_take (i := 14) (v := (.pointer (some ⟨ga, oa + k * 35 + 32, none⟩))) rfl (by kernel_rfl) (by kernel_rfl) (by kernel_rfl) (fun _ _ _ h => h) (.inl ⟨by rfl, fun W _ => by go_simp⟩) hH ?_
      change wpAnyH _ _ _ _ _ _ _ (Act.put _ (some 32) _) _
      simp only [Act.put, List.setIfInBounds_toArray, List.set_cons_zero, List.set_cons_succ]
      refine wpAnyH_take (i := 15) (v := (.int .u32 (x.idx.toNat : Int))) rfl (by kernel_rfl) (by kernel_rfl) (by kernel_rfl) (fun _ _ _ h => h) (.inl ⟨by rfl, fun W hS => by have c4 := x.idxR hS.2; go_simp⟩) hH ?_
      change wpAnyH _ _ _ _ _ _ _ (Act.put _ (some 33) _) _
      simp only [Act.put, List.setIfInBounds_toArray, List.set_cons_zero, List.set_cons_succ]
      refine wpAnyH_take (i := 16) (v := (.pointer (some ⟨w.heap.size, 1, none⟩))) rfl (by kernel_rfl) (by kernel_rfl) (by kernel_rfl) (fun _ _ _ h => h) (.inl ⟨by rfl, fun W _ => by go_simp⟩) hH ?_
      change wpAnyH _ _ _ _ _ _ _ (Act.put _ (some 34) _) _
      simp only [Act.put, List.setIfInBounds_toArray, List.set_cons_zero, List.set_cons_succ]
      refine wpAnyH_take (i := 17) (v := (.slice (some ⟨ga, oa, none⟩) m.ins.length ci)) rfl (by kernel_rfl) (by kernel_rfl) (by kernel_rfl) (fun _ _ _ h => h) (.inl ⟨by rfl, fun W hS => by have c4 := (RC.out W hS.1).1; go_simp⟩) hH ?_
      change wpAnyH _ _ _ _ _ _ _ (Act.put _ (some 35) _) _
      simp only [Act.put, List.setIfInBounds_toArray, List.set_cons_zero, List.set_cons_succ]
      refine wpAnyH_take (i := 18) (v := (.int .i64 (k : Int))) rfl (by kernel_rfl) (by kernel_rfl) (by kernel_rfl) (fun _ _ _ h => h) (yl_move (by rfl) _ (by rfl) _ (by rfl)) hH ?_
      change wpAnyH _ _ _ _ _ _ _ (Act.put _ (some 36) _) _
      simp only [Act.put, List.setIfInBounds_toArray, List.set_cons_zero, List.set_cons_succ]
      refine wpAnyH_take (i := 19) (v := (.pointer (some ⟨ga, oa + k * 35, none⟩))) rfl (by kernel_rfl) (by kernel_rfl) (by kernel_rfl) (fun _ _ _ h => h) (.inl ⟨by rfl, fun W _ => by go_simp⟩) hH ?_
      change wpAnyH _ _ _ _ _ _ _ (Act.put _ (some 37) _) _
      simp only [Act.put, List.setIfInBounds_toArray, List.set_cons_zero, List.set_cons_succ]
      refine wpAnyH_take (i := 20) (v := (.pointer (some ⟨ga, oa + k * 35 + 33, none⟩))) rfl (by kernel_rfl) (by kernel_rfl) (by kernel_rfl) (fun _ _ _ h => h) (.inl ⟨by rfl, fun W _ => by go_simp⟩) hH ?_
      change wpAnyH _ _ _ _ _ _ _ (Act.put _ (some 38) _) _
      simp only [Act.put, List.setIfInBounds_toArray, List.set_cons_zero, List.set_cons_succ]
      refine wpAnyH_take (i := 21) (v := (.string x.key)) rfl (by kernel_rfl) (by kernel_rfl) (by kernel_rfl) (fun _ _ _ h => h) (.inl ⟨by rfl, fun W hS => by have c4 := x.keyR' hS.2; go_simp⟩) hH ?_
      change wpAnyH _ _ _ _ _ _ _ (Act.put _ (some 39) _) _
      simp only [Act.put, List.setIfInBounds_toArray, List.set_cons_zero, List.set_cons_succ]
      refine wpAnyH_take (i := 22) (v := (.pointer (some ⟨w.heap.size, 1, none⟩))) rfl (by kernel_rfl) (by kernel_rfl) (by kernel_rfl) (fun _ _ _ h => h) (.inl ⟨by rfl, fun W _ => by go_simp⟩) hH ?_
      change wpAnyH _ _ _ _ _ _ _ (Act.put _ (some 40) _) _
      simp only [Act.put, List.setIfInBounds_toArray, List.set_cons_zero, List.set_cons_succ]
      refine wpAnyH_take (i := 23) (v := (.slice (some ⟨ga, oa, none⟩) m.ins.length ci)) rfl (by kernel_rfl) (by kernel_rfl) (by kernel_rfl) (fun _ _ _ h => h) (.inl ⟨by rfl, fun W hS => by have c4 := (RC.out W hS.1).1; go_simp⟩) hH ?_
      change wpAnyH _ _ _ _ _ _ _ (Act.put _ (some 41) _) _
      simp only [Act.put, List.setIfInBounds_toArray, List.set_cons_zero, List.set_cons_succ]
      refine wpAnyH_take (i := 24) (v := (.int .i64 (k : Int))) rfl (by kernel_rfl) (by kernel_rfl) (by kernel_rfl) (fun _ _ _ h => h) (yl_move (by rfl) _ (by rfl) _ (by rfl)) hH ?_
      change wpAnyH _ _ _ _ _ _ _ (Act.put _ (some 42) _) _
      simp only [Act.put, List.setIfInBounds_toArray, List.set_cons_zero, List.set_cons_succ]
      refine wpAnyH_take (i := 25) (v := (.pointer (some ⟨ga, oa + k * 35, none⟩))) rfl (by kernel_rfl) (by kernel_rfl) (by kernel_rfl) (fun _ _ _ h => h) (.inl ⟨by rfl, fun W _ => by go_simp⟩) hH ?_
      change wpAnyH _ _ _ _ _ _ _ (Act.put _ (some 43) _) _
      simp only [Act.put, List.setIfInBounds_toArray, List.set_cons_zero, List.set_cons_succ]
      refine wpAnyH_take (i := 26) (v := (.pointer (some ⟨ga, oa + k * 35 + 34, none⟩))) rfl (by kernel_rfl) (by kernel_rfl) (by kernel_rfl) (fun _ _ _ h => h) (.inl ⟨by rfl, fun W _ => by go_simp⟩) hH ?_
      change wpAnyH _ _ _ _ _ _ _ (Act.put _ (some 44) _) _
      simp only [Act.put, List.setIfInBounds_toArray, List.set_cons_zero, List.set_cons_succ]
      refine wpAnyH_take (i := 27) (v := (.int .u32 (x.seq.toNat : Int))) rfl (by kernel_rfl) (by kernel_rfl) (by kernel_rfl) (fun _ _ _ h => h) (.inl ⟨by rfl, fun W hS => by have c4 := x.seqR hS.2; go_simp⟩) hH ?_
      change wpAnyH _ _ _ _ _ _ _ (Act.put _ (some 45) _) _
      simp only [Act.put, List.setIfInBounds_toArray, List.set_cons_zero, List.set_cons_succ]
      refine wpAnyH_take (i := 28) (v := (.agg x.cells.toArray)) rfl (by kernel_rfl) (by kernel_rfl) (by kernel_rfl) (fun _ _ _ h => h) (yl_build (by rfl) _ (by rfl) #[(0, .agg (hc x.hash)), (1, .int .u32 (x.idx.toNat : Int)), (2, .string x.key), (3, .int .u32 (x.seq.toNat : Int))] _ (by simp only [List.map_toArray, List.map_cons, List.map_nil]; rfl) (bld_In x)) hH ?_
      change wpAnyH _ _ _ _ _ _ _ (Act.put _ (some 46) _) _
      simp only [Act.put, List.setIfInBounds_toArray, List.set_cons_zero, List.set_cons_succ]
      have d4 : V1.cell? ⟨w.heap.size + 1 + 1, 1, none⟩ = some (.slice bi P.length di) := by rw [cell_of_row _ _ _ _ _ _ J1.out.r2]; rfl
      have ba := (Below.refl V1.heap.size V1).alloc (Nat.le_refl _) (.cells (KAr.enc x).toArray KAr.e)
      have J2 := hide (J1.out.next ba)
      have d5 : (V1.alloc (.cells (KAr.enc x).toArray KAr.e)).cell? ⟨w.heap.size + 1 + 1, 1, none⟩ = some (.slice bi P.length di) := by rw [cell_of_row _ _ _ _ _ _ J2.out.r2]; rfl
      have FZ := hide (fun W' (h : W'.heap[w.heap.size + 1 + 1]? = V1.heap[w.heap.size + 1 + 1]?) => And.intro (show W'.cell? ⟨w.heap.size + 1 + 1, 1, none⟩ = some (.slice bi P.length di) by rw [cell_of_row _ _ _ _ _ _ (h.trans J1.out.r2)]; rfl) (show W'.frozen? ⟨w.heap.size + 1 + 1, 1, none⟩ = false from frozen_of_row W' _ _ _ _ (h.trans J1.out.r2)))
      clear ba
      generalize hN : P.length = N at *
      have HN := hide hN
      clear hN
      refine wpAnyH_ready (rs := [1, 29]) (by kernel_rfl) (by simp) (AllReadyH.cons rfl (fun K1 hK1 => ?_) (AllReadyH.cons rfl (fun K1 hK1 => ?_) AllReadyH.nil))
      · go_simp
        refine hK1.out _ _ (SX.out _ J1.out.bel J1.out.r0) (fun hH => ?_)
        clear hK1
        refine wpAnyH_ready (rs := [29]) (by kernel_rfl) (by simp) (AllReadyH.cons rfl (fun K1 hK1 => ?_) AllReadyH.nil)
        refine Ek.stepBs1 KAr (by rfl) _ (by rfl) x (by rfl) ?_
        refine hK1.out _ _ (SX.out _ J2.out.bel J2.out.r0) (fun hH => ?_)
        clear hK1
        change wpAnyH _ _ _ _ _ _ _ (Act.put _ (some 47) _) _
        simp only [Act.put, List.setIfInBounds_toArray, List.set_cons_zero, List.set_cons_succ]
        refine wpAnyH_ready (rs := [30]) (by kernel_rfl) (by simp) (AllReadyH.cons rfl (fun K1 hK1 => ?_) AllReadyH.nil)
        refine Ek.stepApp KAr (by rfl) _ _ (by rfl) _ P (by rfl) (by have := J2.out.xi; rw [← HN.out]; exact this) ⟨V1.heap.size, 0, none⟩ x (by rfl) (one_newX V1 x) (by have := TL.out; have := HN.out; have := KB.out; show (P.length + 1) * 64 ≤ _; omega) (by have := TL.out; have := HN.out; have := KB.out; unfold maxLen; omega) ?_
        intro v' W4 o4 on4
        obtain ⟨ao4, co4, rfl⟩ := o4.form
        rw [← HN.out] at on4
        have OO := hide (J1.out.onto _ J1.out.fi on4)
        obtain ⟨q1, q2⟩ := FZ.out W4 (OO.out.2.1 _ (Nat.le_refl _))
        have J4 := hide (J1.out.appI _ o4 on4 (J1.out.other _ on4))
        clear o4 on4
        have R04 := hide ((OO.out.2.1 _ (by omega)).trans J1.out.r0)
        refine hK1.out _ _ (SX.out _ OO.out.1 R04.out) (fun hH => ?_)
        clear hK1
        generalize (P ++ [x]).length = M at *
        change wpAnyH _ _ _ _ _ _ _ (Act.put _ (some 48) _) _
        simp only [Act.put, List.setIfInBounds_toArray, List.set_cons_zero, List.set_cons_succ]
        refine wpAnyH_take (i := 31) (v := (.pointer (some ⟨w.heap.size + 1 + 1, 1, none⟩))) rfl (by kernel_rfl) (by kernel_rfl) (by kernel_rfl) (fun _ _ _ h => h) (.inl ⟨by rfl, fun W _ => by go_simp⟩) hH ?_
        change wpAnyH _ _ _ _ _ _ _ (Act.put _ (some 49) _) _
        simp only [Act.put, List.setIfInBounds_toArray, List.set_cons_zero, List.set_cons_succ]
        refine wpAnyH_ready (rs := [32]) (by kernel_rfl) (by simp) (AllReadyH.cons rfl (fun K1 hK1 => ?_) AllReadyH.nil)
        go_simp
        refine hK1.out _ _ (SX.out _ J4.out.bel J4.out.r0) (fun hH => ?_)
        clear hK1
        refine wpAnyH_done (by kernel_rfl) ?_ _
        clear hH
        have J5 : Hid (Gv w (W4.setCell ⟨w.heap.size + 1 + 1, 1, none⟩ (.slice ao4 M co4)) C ⟨m.ver, m.ins.take (k + 1), [], m.time⟩ ao4 co4 none 0) := by
          have := J4.out
          rw [← TK.out]
          exact this
        go_wp2
        exact ⟨⟨k + 1, ao4, co4, KK.out.1, by go_num, J5.out⟩, by simpa [intOf] using KK.out.2⟩
      · refine Ek.stepBs1 KAr (by rfl) _ (by rfl) x (by rfl) ?_
        refine hK1.out _ _ (SX.out _ J2.out.bel J2.out.r0) (fun hH => ?_)
        clear hK1
        change wpAnyH _ _ _ _ _ _ _ (Act.put _ (some 47) _) _
        simp only [Act.put, List.setIfInBounds_toArray, List.set_cons_zero, List.set_cons_succ]
        refine wpAnyH_ready (rs := [1]) (by kernel_rfl) (by simp) (AllReadyH.cons rfl (fun K1 hK1 => ?_) AllReadyH.nil)
        go_simp
        refine hK1.out _ _ (SX.out _ J2.out.bel J2.out.r0) (fun hH => ?_)
        clear hK1
        refine wpAnyH_ready (rs := [30]) (by kernel_rfl) (by simp) (AllReadyH.cons rfl (fun K1 hK1 => ?_) AllReadyH.nil)
        refine Ek.stepApp KAr (by rfl) _ _ (by rfl) _ P (by rfl) (by have := J2.out.xi; rw [← HN.out]; exact this) ⟨V1.heap.size, 0, none⟩ x (by rfl) (one_newX V1 x) (by have := TL.out; have := HN.out; have := KB.out; show (P.length + 1) * 64 ≤ _; omega) (by have := TL.out; have := HN.out; have := KB.out; unfold maxLen; omega) ?_
        intro v' W4 o4 on4
        obtain ⟨ao4, co4, rfl⟩ := o4.form
        rw [← HN.out] at on4
        have OO := hide (J1.out.onto _ J1.out.fi on4)
        obtain ⟨q1, q2⟩ := FZ.out W4 (OO.out.2.1 _ (Nat.le_refl _))
        have J4 := hide (J1.out.appI _ o4 on4 (J1.out.other _ on4))
        clear o4 on4
        have R04 := hide ((OO.out.2.1 _ (by omega)).trans J1.out.r0)
        refine hK1.out _ _ (SX.out _ OO.out.1 R04.out) (fun hH => ?_)
        clear hK1
        generalize (P ++ [x]).length = M at *
        change wpAnyH _ _ _ _ _ _ _ (Act.put _ (some 48) _) _
        simp only [Act.put, List.setIfInBounds_toArray, List.set_cons_zero, List.set_cons_succ]
        refine wpAnyH_take (i := 31) (v := (.pointer (some ⟨w.heap.size + 1 + 1, 1, none⟩))) rfl (by kernel_rfl) (by kernel_rfl) (by kernel_rfl) (fun _ _ _ h => h) (.inl ⟨by rfl, fun W _ => by go_simp⟩) hH ?_
        change wpAnyH _ _ _ _ _ _ _ (Act.put _ (some 49) _) _
        simp only [Act.put, List.setIfInBounds_toArray, List.set_cons_zero, List.set_cons_succ]
        refine wpAnyH_ready (rs := [32]) (by kernel_rfl) (by simp) (AllReadyH.cons rfl (fun K1 hK1 => ?_) AllReadyH.nil)
        go_simp
        refine hK1.out _ _ (SX.out _ J4.out.bel J4.out.r0) (fun hH => ?_)
        clear hK1
        refine wpAnyH_done (by kernel_rfl) ?_ _
        clear hH
        have J5 : Hid (Gv w (W4.setCell ⟨w.heap.size + 1 + 1, 1, none⟩ (.slice ao4 M co4)) C ⟨m.ver, m.ins.take (k + 1), [], m.time⟩ ao4 co4 none 0) := by
          have := J4.out
          rw [← TK.out]
          exact this
        go_wp2
        exact ⟨⟨k + 1, ao4, co4, KK.out.1, by go_num, J5.out⟩, by simpa [intOf] using KK.out.2⟩
    · have h1 : ¬ (k : Int) < (m.ins.length : Int) := by omega
      rw [List.take_of_length_le (by omega)] at J
      clear hk hlt
      go_upto_region 7 with fail
      clear c1 h1
      go_loopw [5] (fun i wr => ∃ (k : Nat) (bo : Option Addr) (d0 : Nat), k ≤ m.outs.length ∧ i = .int .i64 (k : Int) ∧ Hid (Gv w wr C ⟨m.ver, m.ins, m.outs.take k, m.time⟩ bi di bo d0)) (fun i _ => (m.outs.length - intOf i).toNat)
      case atStart => exact ⟨0, none, 0, Nat.zero_le _, rfl, J.out⟩
      case round =>
        clear J
        obtain ⟨k, bo, d0, hk, rfl, J⟩ := hrel
        have c1 := (CC.out _ _ _ _ _ _ J.out).1.2
        by_cases hlt : k < m.outs.length
        · have _h0 := hlt
          have h1 : (k : Int) < (m.outs.length : Int) := by omega
          have h2 : (0 : Int) ≤ (k : Int) := by omega
          have h5 := HF.out.o
          have e1 : IntKind.i64.wrap ((k : Int) + 1) = k + 1 := wrapI _ (by omega) (by omega)
          have KK := hide (And.intro (show k + 1 ≤ m.outs.length by omega) (show ((m.outs.length : Int) - ((k : Int) + 1)).toNat < ((m.outs.length : Int) - (k : Int)).toNat by omega))
          obtain ⟨ga, oa, hga⟩ := HL.out.o.base (by omega)
          subst hga
          have RGW : Hid (∀ W, Below w.heap.size w W → W.rangeAt ga (oa + k * 2) m.outs[k].cells) := fun W b => (HL.out.below b).o.range k hlt
          have TK := hide (List.take_append_getElem hlt)
          have TL := hide (show (m.outs.take k).length ≤ k by rw [List.length_take]; omega)
          have KB := hide (show (k + 1) * 24 ≤ 140737488355328 by omega)
          generalize m.outs[k] = x at *
          generalize hp : m.outs.take k = P at *
          clear hk hlt h5 hp
          clear _h0
          go_upto_region 9 with fail
          clear c1 CC
          have J1 := hide (J.out.next (Below.refl wr.heap.size wr).drew)
          have SX : Hid (∀ W : World, Below w.heap.size w W → W.heap[w.heap.size]? = some (.cells C 47 (0, 0)) → W.heap[w.heap.size]? = some (.cells C 47 (0, 0)) ∧ W.rangeAt ga (oa + k * 2) x.cells) := fun W b e => ⟨e, RGW.out W b⟩
          refine wp_region_held_drew (S := fun W => W.heap[w.heap.size]? = some (.cells C 47 (0, 0)) ∧ W.rangeAt ga (oa + k * 2) x.cells) (by kernel_rfl) (SX.out _ J1.out.bel J1.out.r0) (fun hH => ?_)
          generalize hWd : wr.drew = V1 at *
          clear hWd
          refine wpAnyH_take (i := 0) (v := (.pointer (some ⟨w.heap.size + 1 + 1, 2, none⟩))) rfl (by kernel_rfl) (by kernel_rfl) (by kernel_rfl) (fun _ _ _ h => h) (.inl ⟨by rfl, fun W _ => by go_simp⟩) hH ?_
          change wpAnyH _ _ _ _ _ _ _ (Act.put _ (some 57) _) _
          simp only [Act.put, List.setIfInBounds_toArray, List.set_cons_zero, List.set_cons_succ]
          refine wpAnyH_take (i := 2) (v := (.pointer (some ⟨w.heap.size, 2, none⟩))) rfl (by kernel_rfl) (by kernel_rfl) (by kernel_rfl) (fun _ _ _ h => h) (.inl ⟨by rfl, fun W _ => by go_simp⟩) hH ?_
          change wpAnyH _ _ _ _ _ _ _ (Act.put _ (some 59) _) _
          simp only [Act.put, List.setIfInBounds_toArray, List.set_cons_zero, List.set_cons_succ]
          refine wpAnyH_take (i := 3) (v := (.slice (some ⟨ga, oa, none⟩) m.outs.length co)) rfl (by kernel_rfl) (by kernel_rfl) (by kernel_rfl) (fun _ _ _ h => h) (.inl ⟨by rfl, fun W hS => by have c4 := (RC.out W hS.1).2; go_simp⟩) hH ?_
          change wpAnyH _ _ _ _ _ _ _ (Act.put _ (some 60) _) _
          simp only [Act.put, List.setIfInBounds_toArray, List.set_cons_zero, List.set_cons_succ]
          refine wpAnyH_take (i := 4) (v := (.int .i64 (k : Int))) rfl (by kernel_rfl) (by kernel_rfl) (by kernel_rfl) (fun _ _ _ h => h) (yl_move (by rfl) _ (by rfl) _ (by rfl)) hH ?_
          change wpAnyH _ _ _ _ _ _ _ (Act.put _ (some 61) _) _
          simp only [Act.put, List.setIfInBounds_toArray, List.set_cons_zero, List.set_cons_succ]
          refine wpAnyH_take (i := 5) (v := (.pointer (some ⟨ga, oa + k * 2, none⟩))) rfl (by kernel_rfl) (by kernel_rfl) (by kernel_rfl) (fun _ _ _ h => h) (.inl ⟨by rfl, fun W _ => by go_simp⟩) hH ?_
          change wpAnyH _ _ _ _ _ _ _ (Act.put _ (some 62) _) _
          simp only [Act.put, List.setIfInBounds_toArray, List.set_cons_zero, List.set_cons_succ]
          refine wpAnyH_take (i := 6) (v := (.pointer (some ⟨ga, oa + k * 2, none⟩))) rfl (by kernel_rfl) (by kernel_rfl) (by kernel_rfl) (fun _ _ _ h => h) (.inl ⟨by rfl, fun W _ => by go_simp⟩) hH ?_
          change wpAnyH _ _ _ _ _ _ _ (Act.put _ (some 63) _) _
          simp only [Act.put, List.setIfInBounds_toArray, List.set_cons_zero, List.set_cons_succ]
          refine wpAnyH_take (i := 7) (v := (.int .u64 (x.val.toNat : Int))) rfl (by kernel_rfl) (by kernel_rfl) (by kernel_rfl) (fun _ _ _ h => h) (.inl ⟨by rfl, fun W hS => by have c4 := x.valR hS.2; go_simp⟩) hH ?_
          change wpAnyH _ _ _ _ _ _ _ (Act.put _ (some 64) _) _
          simp only [Act.put, List.setIfInBounds_toArray, List.set_cons_zero, List.set_cons_succ]
          refine wpAnyH_take (i := 8) (v := (.pointer (some ⟨w.heap.size, 2, none⟩))) rfl (by kernel_rfl) (by kernel_rfl) (by kernel_rfl) (fun _ _ _ h => h) (.inl ⟨by rfl, fun W _ => by go_simp⟩) hH ?_
          change wpAnyH _ _ _ _ _ _ _ (Act.put _ (some 65) _) _
          simp only [Act.put, List.setIfInBounds_toArray, List.set_cons_zero, List.set_cons_succ]
          refine wpAnyH_take (i := 9) (v := (.slice (some ⟨ga, oa, none⟩) m.outs.length co)) rfl (by kernel_rfl) (by kernel_rfl) (by kernel_rfl) (fun _ _ _ h => h) (.inl ⟨by rfl, fun W hS => by have c4 := (RC.out W hS.1).2; go_simp⟩) hH ?_
          change wpAnyH _ _ _ _ _ _ _ (Act.put _ (some 66) _) _
          simp only [Act.put, List.setIfInBounds_toArray, List.set_cons_zero, List.set_cons_succ]
          refine wpAnyH_take (i := 10) (v := (.int .i64 (k : Int))) rfl (by kernel_rfl) (by kernel_rfl) (by kernel_rfl) (fun _ _ _ h => h) (yl_move (by rfl) _ (by rfl) _ (by rfl)) hH ?_
          change wpAnyH _ _ _ _ _ _ _ (Act.put _ (some 67) _) _
          simp only [Act.put, List.setIfInBounds_toArray, List.set_cons_zero, List.set_cons_succ]
          refine wpAnyH_take (i := 11) (v := (.pointer (some ⟨ga, oa + k * 2, none⟩))) rfl (by kernel_rfl) (by kernel_rfl) (by kernel_rfl) (fun _ _ _ h => h) (.inl ⟨by rfl, fun W _ => by go_simp⟩) hH ?_
          change wpAnyH _ _ _ _ _ _ _ (Act.put _ (some 68) _) _
          simp only [Act.put, List.setIfInBounds_toArray, List.set_cons_zero, List.set_cons_succ]
          refine wpAnyH_take (i := 12) (v := (.pointer (some ⟨ga, oa + k * 2 + 1, none⟩))) rfl (by kernel_rfl) (by kernel_rfl) (by kernel_rfl) (fun _ _ _ h => h) (.inl ⟨by rfl, fun W _ => by go_simp⟩) hH ?_
          change wpAnyH _ _ _ _ _ _ _ (Act.put _ (some 69) _) _
          simp only [Act.put, List.setIfInBounds_toArray, List.set_cons_zero, List.set_cons_succ]
          refine wpAnyH_take (i := 13) (v := (.string x.lock)) rfl (by kernel_rfl) (by kernel_rfl) (by kernel_rfl) (fun _ _ _ h => h) (.inl ⟨by rfl, fun W hS => by have c4 := x.lockR hS.2; go_simp⟩) hH ?_
          change wpAnyH _ _ _ _ _ _ _ (Act.put _ (some 70) _) _
          simp only [Act.put, List.setIfInBounds_toArray, List.set_cons_zero, List.set_cons_succ]
          refine wpAnyH_take (i := 14) (v := (.agg x.cells.toArray)) rfl (by kernel_rfl) (by kernel_rfl) (by kernel_rfl) (fun _ _ _ h => h) (yl_build (by rfl) _ (by rfl) #[(0, .int .u64 (x.val.toNat : Int)), (1, .string x.lock)] _ (by simp only [List.map_toArray, List.map_cons, List.map_nil]; rfl) (bld_Or x)) hH ?_
          change wpAnyH _ _ _ _ _ _ _ (Act.put _ (some 71) _) _
          simp only [Act.put, List.setIfInBounds_toArray, List.set_cons_zero, List.set_cons_succ]
          have d4 : V1.cell? ⟨w.heap.size + 1 + 1, 2, none⟩ = some (.slice bo P.length d0) := by rw [cell_of_row _ _ _ _ _ _ J1.out.r2]; rfl
          have ba := (Below.refl V1.heap.size V1).alloc (Nat.le_refl _) (.cells (KOr.enc x).toArray KOr.e)
          have J2 := hide (J1.out.next ba)
          have d5 : (V1.alloc (.cells (KOr.enc x).toArray KOr.e)).cell? ⟨w.heap.size + 1 + 1, 2, none⟩ = some (.slice bo P.length d0) := by rw [cell_of_row _ _ _ _ _ _ J2.out.r2]; rfl
          have FZ := hide (fun W' (h : W'.heap[w.heap.size + 1 + 1]? = V1.heap[w.heap.size + 1 + 1]?) => And.intro (show W'.cell? ⟨w.heap.size + 1 + 1, 2, none⟩ = some (.slice bo P.length d0) by rw [cell_of_row _ _ _ _ _ _ (h.trans J1.out.r2)]; rfl) (show W'.frozen? ⟨w.heap.size + 1 + 1, 2, none⟩ = false from frozen_of_row W' _ _ _ _ (h.trans J1.out.r2)))
          clear ba
          generalize hN : P.length = N at *
          have HN := hide hN
          clear hN
          refine wpAnyH_ready (rs := [1, 15]) (by kernel_rfl) (by simp) (AllReadyH.cons rfl (fun K1 hK1 => ?_) (AllReadyH.cons rfl (fun K1 hK1 => ?_) AllReadyH.nil))
          · go_simp
            refine hK1.out _ _ (SX.out _ J1.out.bel J1.out.r0) (fun hH => ?_)
            clear hK1
            refine wpAnyH_ready (rs := [15]) (by kernel_rfl) (by simp) (AllReadyH.cons rfl (fun K1 hK1 => ?_) AllReadyH.nil)
            refine Ek.stepBs1 KOr (by rfl) _ (by rfl) x (by rfl) ?_
            refine hK1.out _ _ (SX.out _ J2.out.bel J2.out.r0) (fun hH => ?_)
            clear hK1
            change wpAnyH _ _ _ _ _ _ _ (Act.put _ (some 72) _) _
            simp only [Act.put, List.setIfInBounds_toArray, List.set_cons_zero, List.set_cons_succ]
            refine wpAnyH_ready (rs := [16]) (by kernel_rfl) (by simp) (AllReadyH.cons rfl (fun K1 hK1 => ?_) AllReadyH.nil)
            refine Ek.stepApp KOr (by rfl) _ _ (by rfl) _ P (by rfl) (by have := J2.out.xo; rw [← HN.out]; exact this) ⟨V1.heap.size, 0, none⟩ x (by rfl) (one_newX V1 x) (by have := TL.out; have := HN.out; have := KB.out; show (P.length + 1) * 24 ≤ _; omega) (by have := TL.out; have := HN.out; have := KB.out; unfold maxLen; omega) ?_
            intro v' W4 o4 on4
            obtain ⟨ao4, co4, rfl⟩ := o4.form
            rw [← HN.out] at on4
            have OO := hide (J1.out.onto _ J1.out.fo on4)
            obtain ⟨q1, q2⟩ := FZ.out W4 (OO.out.2.1 _ (Nat.le_refl _))
            have J4 := hide (J1.out.appO _ o4 on4 (J1.out.otherO _ on4))
            clear o4 on4
            have R04 := hide ((OO.out.2.1 _ (by omega)).trans J1.out.r0)
            refine hK1.out _ _ (SX.out _ OO.out.1 R04.out) (fun hH => ?_)
            clear hK1
            generalize (P ++ [x]).length = M at *
            change wpAnyH _ _ _ _ _ _ _ (Act.put _ (some 73) _) _
            simp only [Act.put, List.setIfInBounds_toArray, List.set_cons_zero, List.set_cons_succ]
            refine wpAnyH_take (i := 17) (v := (.pointer (some ⟨w.heap.size + 1 + 1, 2, none⟩))) rfl (by kernel_rfl) (by kernel_rfl) (by kernel_rfl) (fun _ _ _ h => h) (.inl ⟨by rfl, fun W _ => by go_simp⟩) hH ?_
            change wpAnyH _ _ _ _ _ _ _ (Act.put _ (some 74) _) _
            simp only [Act.put, List.setIfInBounds_toArray, List.set_cons_zero, List.set_cons_succ]
            refine wpAnyH_ready (rs := [18]) (by kernel_rfl) (by simp) (AllReadyH.cons rfl (fun K1 hK1 => ?_) AllReadyH.nil)
            go_simp
            refine hK1.out _ _ (SX.out _ J4.out.bel J4.out.r0) (fun hH => ?_)
            clear hK1
            refine wpAnyH_done (by kernel_rfl) ?_ _
            clear hH
            have J5 : Hid (Gv w (W4.setCell ⟨w.heap.size + 1 + 1, 2, none⟩ (.slice ao4 M co4)) C ⟨m.ver, m.ins, m.outs.take (k + 1), m.time⟩ bi di ao4 co4) := by
              have := J4.out
              rw [← TK.out]
              exact this
            go_wp2
            exact ⟨⟨k + 1, ao4, co4, KK.out.1, by go_num, J5.out⟩, by simpa [intOf] using KK.out.2⟩
          · refine Ek.stepBs1 KOr (by rfl) _ (by rfl) x (by rfl) ?_
            refine hK1.out _ _ (SX.out _ J2.out.bel J2.out.r0) (fun hH => ?_)
            clear hK1
            change wpAnyH _ _ _ _ _ _ _ (Act.put _ (some 72) _) _
            simp only [Act.put, List.setIfInBounds_toArray, List.set_cons_zero, List.set_cons_succ]
            refine wpAnyH_ready (rs := [1]) (by kernel_rfl) (by simp) (AllReadyH.cons rfl (fun K1 hK1 => ?_) AllReadyH.nil)
            go_simp
            refine hK1.out _ _ (SX.out _ J2.out.bel J2.out.r0) (fun hH => ?_)
            clear hK1
            refine wpAnyH_ready (rs := [16]) (by kernel_rfl) (by simp) (AllReadyH.cons rfl (fun K1 hK1 => ?_) AllReadyH.nil)
            refine Ek.stepApp KOr (by rfl) _ _ (by rfl) _ P (by rfl) (by have := J2.out.xo; rw [← HN.out]; exact this) ⟨V1.heap.size, 0, none⟩ x (by rfl) (one_newX V1 x) (by have := TL.out; have := HN.out; have := KB.out; show (P.length + 1) * 24 ≤ _; omega) (by have := TL.out; have := HN.out; have := KB.out; unfold maxLen; omega) ?_
            intro v' W4 o4 on4
            obtain ⟨ao4, co4, rfl⟩ := o4.form
            rw [← HN.out] at on4
            have OO := hide (J1.out.onto _ J1.out.fo on4)
            obtain ⟨q1, q2⟩ := FZ.out W4 (OO.out.2.1 _ (Nat.le_refl _))
            have J4 := hide (J1.out.appO _ o4 on4 (J1.out.otherO _ on4))
            clear o4 on4
            have R04 := hide ((OO.out.2.1 _ (by omega)).trans J1.out.r0)
            refine hK1.out _ _ (SX.out _ OO.out.1 R04.out) (fun hH => ?_)
            clear hK1
            generalize (P ++ [x]).length = M at *
            change wpAnyH _ _ _ _ _ _ _ (Act.put _ (some 73) _) _
            simp only [Act.put, List.setIfInBounds_toArray, List.set_cons_zero, List.set_cons_succ]
            refine wpAnyH_take (i := 17) (v := (.pointer (some ⟨w.heap.size + 1 + 1, 2, none⟩))) rfl (by kernel_rfl) (by kernel_rfl) (by kernel_rfl) (fun _ _ _ h => h) (.inl ⟨by rfl, fun W _ => by go_simp⟩) hH ?_
            change wpAnyH _ _ _ _ _ _ _ (Act.put _ (some 74) _) _
            simp only [Act.put, List.setIfInBounds_toArray, List.set_cons_zero, List.set_cons_succ]
            refine wpAnyH_ready (rs := [18]) (by kernel_rfl) (by simp) (AllReadyH.cons rfl (fun K1 hK1 => ?_) AllReadyH.nil)
            go_simp
            refine hK1.out _ _ (SX.out _ J4.out.bel J4.out.r0) (fun hH => ?_)
            clear hK1
            refine wpAnyH_done (by kernel_rfl) ?_ _
            clear hH
            have J5 : Hid (Gv w (W4.setCell ⟨w.heap.size + 1 + 1, 2, none⟩ (.slice ao4 M co4)) C ⟨m.ver, m.ins, m.outs.take (k + 1), m.time⟩ bi di ao4 co4) := by
              have := J4.out
              rw [← TK.out]
              exact this
            go_wp2
            exact ⟨⟨k + 1, ao4, co4, KK.out.1, by go_num, J5.out⟩, by simpa [intOf] using KK.out.2⟩
        · have h1 : ¬ (k : Int) < (m.outs.length : Int) := by omega
          rw [List.take_of_length_le (by omega)] at J
          clear hk hlt
          change Hid (Gv w wr C m bi di bo d0) at J
          go_wp2_with ((with_reducible refine at_list ?_); first | (refine wpList_loadA ATr rfl _ rfl (w.heap.size + 1 + 1) rfl (m.cells bi di bo d0) rfl 59 J.out.r2 ?_) | (refine wpList_storeA ATr rfl _ _ rfl (w.heap.size + 1) (m.cells bi di bo d0) rfl (m.one _ _ _ _) rfl rfl (zT.cells none 0 none 0) rfl 59 J.out.r1 ?_))
          refine bodyPost_ret (v := .agg (m.cells bi di bo d0)) (resA ATr Tryd.results14 _ _ (w.heap.size + 1) 59 _ rfl rfl (setRow_heap _ _ _ _ _ _ J.out.r1)) rfl ⟨bi, di, bo, d0, rfl, fun W' ag => ⟨?_, ?_⟩, below_setRow J.out.bel (by omega) _⟩
          · exact (J.out.xi.of_block fun g hg => (ag g (by have := J.out.fi g hg; omega) (by have := J.out.xi.lt g hg; simpa using this)).trans (setRow_other _ _ _ _ (by have := J.out.fi g hg; omega))).read
          · exact (J.out.xo.of_block fun g hg => (ag g (by have := J.out.fo g hg; omega) (by have := J.out.xo.lt g hg; simpa using this)).trans (setRow_other _ _ _ _ (by have := J.out.fo g hg; omega))).read
theorem one_any (m : Tm) (ai : Option Addr) (ci : Nat) (ao : Option Addr) (co : Nat) (w : World) (hl : LT w m ai ci ao co) (hf : m.fit) : Calls Tryd.prog 14 #[.agg (m.cells ai ci ao co)] w fun e w' => ∃ (bi : Option Addr) (di : Nat) (bo : Option Addr) (d0 : Nat), e = .returned (.agg (m.cells bi di bo d0)) ∧ LR w' m bi di bo d0 ∧ Below w.heap.size w w' :=
  (one_far m ai ci ao co w hl hf).mono fun e w' ⟨bi, di, bo, d0, h1, h2, h3⟩ => ⟨bi, di, bo, d0, h1, h2 w' (fun _ _ _ => rfl), h3⟩
end
end Go.Proofs.YtdkemnjkhclbkaaDoor
