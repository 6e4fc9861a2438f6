/- The law's given: its contract. -/
import Derived.Test.YtkbfcfmjbgnhcaaKu
namespace Go.Proofs.Ytkbfcfmjbgnhcaa
open Go.RowKit
open Go.Deep
set_option linter.unusedVariables false
section
set_option maxRecDepth 10000
set_option maxHeartbeats 4000000
theorem given_any (m : Tm) (ai : Option Addr) (ci : Nat) (ao : Option Addr) (co : Nat) (w : World) (hl : LT w m ai ci ao co) (hf : m.fit) : Calls Try.prog 4 #[.agg (m.cells ai ci ao co)] w fun e w' => ∃ (bi : Option Addr) (di : Nat) (bo : Option Addr) (d0 : Nat), e = .returned (.agg (m.cells bi di bo d0)) ∧ LR w' m bi di bo d0 ∧ Below w.heap.size w w' := by
  obtain ⟨x0, x1, x2⟩ := blk3 w (.cells (m.cells ai ci ao co) 26) (.cells (zT.cells none 0 none 0) 30) (.cells ((⟨m.ver, [], [], m.time⟩ : Tm).cells none 0 none 0) 30)
  have b3 := below3 w (.cells (m.cells ai ci ao co) 26) (.cells (zT.cells none 0 none 0) 30) (.cells ((⟨m.ver, [], [], m.time⟩ : Tm).cells none 0 none 0) 30)
  have G0 : Hid (Gv w _ (m.cells ai ci ao co) ⟨m.ver, [], [], m.time⟩ none 0 none 0) := ⟨b3, x0, x1, x2, OX.nil _, (fun g hg => by cases hg), OX.nil _, (fun g hg => by cases hg)⟩
  have y0 := heap_alloc_last w (.cells (m.cells ai ci ao co) 26)
  have y1 := (Below.heap_alloc _ (.cells (zT.cells none 0 none 0) 30) _ (lt_heap y0)).trans y0
  have c0 : ((w.alloc (.cells (m.cells ai ci ao co) 26)).alloc (.cells (zT.cells none 0 none 0) 30)).cell? ⟨w.heap.size, 0, none⟩ = some (.int .u32 (m.ver.toNat : Int)) := by rw [cell_of_row _ _ _ _ _ _ y1]; rfl
  have c3 : ((w.alloc (.cells (m.cells ai ci ao co) 26)).alloc (.cells (zT.cells none 0 none 0) 30)).cell? ⟨w.heap.size, 3, none⟩ = some (.int .u32 (m.time.toNat : Int)) := by rw [cell_of_row _ _ _ _ _ _ y1]; rfl
  have HL := hide hl
  have HF := hide hf
  have sz1 : (w.alloc (.cells (m.cells ai ci ao co) 26)).heap.size = w.heap.size + 1 := by simp
  have sz2 : ((w.alloc (.cells (m.cells ai ci ao co) 26)).alloc (.cells (zT.cells none 0 none 0) 30)).heap.size = w.heap.size + 1 + 1 := by simp
  have CC : Hid (∀ W (p : Tm) (bi : Option Addr) (di : Nat) (bo : Option Addr) (d0 : Nat), Gv w W (m.cells ai ci ao co) p bi di bo d0 → (W.cell? ⟨w.heap.size, 1, none⟩ = some (.slice ai m.ins.length ci) ∧ W.cell? ⟨w.heap.size, 2, none⟩ = some (.slice ao m.outs.length co)) ∧ LT W m ai ci ao co) := fun W p bi di bo d0 j => ⟨⟨by rw [cell_of_row _ _ _ _ _ _ j.r0]; rfl, by rw [cell_of_row _ _ _ _ _ _ j.r0]; rfl⟩, HL.out.below j.bel⟩
  clear hl hf x0 x1 x2 b3 y0 y1
  generalize m.cells ai ci ao co = C at *
  go_enter Try.func4, Try.ntmps4
  go_upto_region 1 with ((with_reducible refine at_list ?_); first | refine wpList_boxA rfl _ rfl C rfl ?_ | refine wpList_allocA ATr rfl rfl ?_)
  try rw [sz1]
  generalize hW : (w.alloc (.cells C 26)).alloc (.cells (zT.cells none 0 none 0) 30) = W0 at *
  go_upto_region 2 with ((with_reducible refine at_list ?_); first | refine wpList_bldX rfl _ rfl #[(0, .int .u32 (m.ver.toNat : Int)), (3, .int .u32 (m.time.toNat : Int))] ((⟨m.ver, [], [], m.time⟩ : Tm).cells none 0 none 0) (by rfl) (bld_Tx m.ver m.time) ?_ | refine wpList_allocA ATr rfl rfl ?_ | refine wpList_store_newA ATr rfl _ _ rfl _ rfl ((⟨m.ver, [], [], m.time⟩ : Tm).cells none 0 none 0) rfl (Tm.one _ _ _ _ _) rfl rfl ?_)
  try rw [sz2]
  clear c0 c3 hW sz1 sz2
  generalize W0.alloc (.cells ((⟨m.ver, [], [], m.time⟩ : Tm).cells none 0 none 0) 30) = W1 at *
  simp only [Act.put, List.setIfInBounds_toArray, List.set_cons_zero, List.set_cons_succ]
  have c1 := (CC.out _ _ _ _ _ _ G0.out).1.1
  go_upto_region 3 with fail
  clear c1
  go_loopw [16] (fun i wr => ∃ (k : Nat) (bi : Option Addr) (di : Nat), k ≤ m.ins.length ∧ i = .int .i64 (k : Int) ∧ Hid (Gv w wr C ⟨m.ver, m.ins.take k, [], m.time⟩ bi di none 0)) (fun i _ => (m.ins.length - intOf i).toNat)
  case atStart => exact ⟨0, none, 0, Nat.zero_le _, rfl, G0.out⟩
  case round =>
    clear G0
    obtain ⟨k, bi, di, hk, rfl, J⟩ := hrel
    by_cases hlt : k < m.ins.length
    · have h1 : (k : Int) < (m.ins.length : Int) := by omega
      have h2 : (0 : Int) ≤ (k : Int) := by omega
      have h5 := HF.out.i
      have e1 : IntKind.i64.wrap ((k : Int) + 1) = k + 1 := wrapI _ (by omega) (by omega)
      have KK := hide (And.intro (show k + 1 ≤ m.ins.length by omega) (show ((m.ins.length : Int) - ((k : Int) + 1)).toNat < ((m.ins.length : Int) - (k : Int)).toNat by omega))
      have LL := (CC.out _ _ _ _ _ _ J.out).2
      obtain ⟨ga, oa, hga⟩ := LL.i.base (by omega)
      subst hga
      have RG : Hid (wr.rangeAt ga (oa + k * 35) m.ins[k].cells) := LL.i.range k hlt
      have TK := hide (List.take_append_getElem hlt)
      have TL := hide (show (m.ins.take k).length ≤ k by rw [List.length_take]; omega)
      have KB := hide (show (k + 1) * 64 ≤ 140737488355328 by omega)
      generalize m.ins[k] = x at *
      generalize hp : m.ins.take k = P at *
      clear hk hlt h5 LL hp
      go_upto_region 5 with ((with_reducible refine at_list ?_); first | refine wpLoadI _ rfl ga (oa + k * 35) rfl x RG.out (by rfl) ?_ | refine wpList_allocA AI rfl rfl ?_ | refine wpList_store_newA AI rfl _ _ rfl _ rfl x.cells.toArray x.size x.all rfl rfl ?_)
      have J2 := hide (J.out.next ((Below.refl _ _).alloc (Nat.le_refl _) (.cells x.cells.toArray 48)))
      have rx := heap_alloc_last wr (.cells x.cells.toArray 48)
      have RX := hide (x.hashAt rx)
      have d1 : (wr.alloc (.cells x.cells.toArray 48)).cell? ⟨wr.heap.size, 32, none⟩ = some (.int .u32 (x.idx.toNat : Int)) := by rw [cell_of_row _ _ _ _ _ _ rx]; exact x.at32
      have d2 : (wr.alloc (.cells x.cells.toArray 48)).cell? ⟨wr.heap.size, 33, none⟩ = some (.string x.key) := by rw [cell_of_row _ _ _ _ _ _ rx]; exact x.at33
      have d3 : (wr.alloc (.cells x.cells.toArray 48)).cell? ⟨wr.heap.size, 34, none⟩ = some (.int .u32 (x.seq.toNat : Int)) := by rw [cell_of_row _ _ _ _ _ _ rx]; exact x.at34
      clear J RG rx
      generalize wr.alloc (.cells x.cells.toArray 48) = W2 at *
      generalize wr.heap.size = g5 at *
      have d4 : W2.cell? ⟨w.heap.size + 1 + 1, 1, none⟩ = some (.slice bi P.length di) := by rw [cell_of_row _ _ _ _ _ _ J2.out.r2]; rfl
      have FZ := hide (fun W' (h : W'.heap[w.heap.size + 1 + 1]? = W2.heap[w.heap.size + 1 + 1]?) => And.intro (show W'.cell? ⟨w.heap.size + 1 + 1, 1, none⟩ = some (.slice bi P.length di) by rw [cell_of_row _ _ _ _ _ _ (h.trans J2.out.r2)]; rfl) (show W'.frozen? ⟨w.heap.size + 1 + 1, 1, none⟩ = false from frozen_of_row W' _ _ _ _ (h.trans J2.out.r2)))
      generalize hN : P.length = N at *
      have HN := hide hN
      clear hN
      go_wp2_with (first | ((with_reducible refine at_list ?_); first | refine wpLoadHash _ rfl g5 0 rfl x.hash x.hh RX.out (by rfl) ?_ | refine wpList_bldX rfl _ rfl #[(0, .agg (hc x.hash)), (1, .int .u32 (x.idx.toNat : Int)), (2, .string x.key), (3, .int .u32 (x.seq.toNat : Int))] x.cells.toArray (by simp only [List.map_toArray, List.map_cons, List.map_nil]; rfl) (bld_In x) ?_ | refine Ek.wpBs1 KAr rfl _ rfl x rfl ?_) | (at_builtin; refine Ek.wpApp KAr rfl _ _ rfl _ P rfl (by have := J2.out.xi.below ((Below.refl _ _).alloc (Nat.le_refl _) (.cells (KAr.enc x).toArray KAr.e)); rw [← HN.out]; exact this) ⟨_, 0, none⟩ 1 1 [x] rfl rfl (one_newX _ x) (by have := TL.out; have := HN.out; have := KB.out; show (P.length + 1) * 64 ≤ _; omega) (by have := TL.out; have := HN.out; have := KB.out; unfold maxLen; omega) ?_; intro v' W4 o4 on4; obtain ⟨ao4, co4, rfl⟩ := o4.form; rw [← HN.out] at on4; obtain ⟨q1, q2⟩ := FZ.out W4 ((J2.out.onto _ J2.out.fi on4).2.1 _ (Nat.le_refl _)); have J4 := hide (J2.out.appI _ o4 on4 (J2.out.other _ on4)); clear o4 on4; generalize (P ++ [x]).length = M at *))
      have J5 : Hid (Gv w (W4.setCell ⟨w.heap.size + 1 + 1, 1, none⟩ (.slice ao4 M co4)) C ⟨m.ver, m.ins.take (k + 1), [], m.time⟩ ao4 co4 none 0) := by
        have := J4.out
        rw [← TK.out]
        exact this
      exact ⟨⟨k + 1, ao4, co4, KK.out.1, by go_num, J5.out⟩, by simpa [intOf] using KK.out.2⟩
    · have h1 : ¬ (k : Int) < (m.ins.length : Int) := by omega
      rw [List.take_of_length_le (by omega)] at J
      have c2 := (CC.out _ _ _ _ _ _ J.out).1.2
      clear hk hlt
      go_upto_region 8 with fail
      clear c2 h1
      go_loopw [40] (fun i wr => ∃ (k : Nat) (bo : Option Addr) (d0 : Nat), k ≤ m.outs.length ∧ i = .int .i64 (k : Int) ∧ Hid (Gv w wr C ⟨m.ver, m.ins, m.outs.take k, m.time⟩ bi di bo d0)) (fun i _ => (m.outs.length - intOf i).toNat)
      case atStart => exact ⟨0, none, 0, Nat.zero_le _, rfl, J.out⟩
      case round =>
        clear J
        obtain ⟨k, bo, d0, hk, rfl, J⟩ := hrel
        by_cases hlt : k < m.outs.length
        · have h1 : (k : Int) < (m.outs.length : Int) := by omega
          have h2 : (0 : Int) ≤ (k : Int) := by omega
          have h5 := HF.out.o
          have e1 : IntKind.i64.wrap ((k : Int) + 1) = k + 1 := wrapI _ (by omega) (by omega)
          have KK := hide (And.intro (show k + 1 ≤ m.outs.length by omega) (show ((m.outs.length : Int) - ((k : Int) + 1)).toNat < ((m.outs.length : Int) - (k : Int)).toNat by omega))
          have LL := (CC.out _ _ _ _ _ _ J.out).2
          obtain ⟨ga, oa, hga⟩ := LL.o.base (by omega)
          subst hga
          have RG : Hid (wr.rangeAt ga (oa + k * 2) m.outs[k].cells) := LL.o.range k hlt
          have TK := hide (List.take_append_getElem hlt)
          have TL := hide (show (m.outs.take k).length ≤ k by rw [List.length_take]; omega)
          have KB := hide (show (k + 1) * 24 ≤ 140737488355328 by omega)
          generalize m.outs[k] = x at *
          generalize hp : m.outs.take k = P at *
          clear hk hlt h5 LL hp
          go_upto_region 10 with ((with_reducible refine at_list ?_); first | refine wpLoadO _ rfl ga (oa + k * 2) rfl x RG.out (by rfl) ?_ | refine wpList_allocA AO rfl rfl ?_ | refine wpList_store_newA AO rfl _ _ rfl _ rfl x.cells.toArray rfl x.all rfl rfl ?_)
          have J2 := hide (J.out.next ((Below.refl _ _).alloc (Nat.le_refl _) (.cells x.cells.toArray 52)))
          have RX := hide (heap_alloc_last wr (.cells x.cells.toArray 52))
          clear J RG
          generalize wr.alloc (.cells x.cells.toArray 52) = W2 at *
          generalize wr.heap.size = g7 at *
          have d4 : W2.cell? ⟨w.heap.size + 1 + 1, 2, none⟩ = some (.slice bo P.length d0) := by rw [cell_of_row _ _ _ _ _ _ J2.out.r2]; rfl
          have FZ := hide (fun W' (h : W'.heap[w.heap.size + 1 + 1]? = W2.heap[w.heap.size + 1 + 1]?) => And.intro (show W'.cell? ⟨w.heap.size + 1 + 1, 2, none⟩ = some (.slice bo P.length d0) by rw [cell_of_row _ _ _ _ _ _ (h.trans J2.out.r2)]; rfl) (show W'.frozen? ⟨w.heap.size + 1 + 1, 2, none⟩ = false from frozen_of_row W' _ _ _ _ (h.trans J2.out.r2)))
          generalize hN : P.length = N at *
          have HN := hide hN
          clear hN
          go_wp2_with (first | ((with_reducible refine at_list ?_); first | refine wpList_loadS AO _ rfl g7 rfl x.cells.toArray rfl 52 RX.out (by rfl) ?_ | refine Ek.wpBs1 KOr rfl _ rfl x rfl ?_) | (at_builtin; refine Ek.wpApp KOr rfl _ _ rfl _ P rfl (by have := J2.out.xo.below ((Below.refl _ _).alloc (Nat.le_refl _) (.cells (KOr.enc x).toArray KOr.e)); rw [← HN.out]; exact this) ⟨_, 0, none⟩ 1 1 [x] rfl rfl (one_newX _ x) (by have := TL.out; have := HN.out; have := KB.out; show (P.length + 1) * 24 ≤ _; omega) (by have := TL.out; have := HN.out; have := KB.out; unfold maxLen; omega) ?_; intro v' W4 o4 on4; obtain ⟨ao4, co4, rfl⟩ := o4.form; rw [← HN.out] at on4; obtain ⟨q1, q2⟩ := FZ.out W4 ((J2.out.onto _ J2.out.fo on4).2.1 _ (Nat.le_refl _)); have J4 := hide (J2.out.appO _ o4 on4 (J2.out.otherO _ on4)); clear o4 on4; generalize (P ++ [x]).length = M at *))
          have J5 : Hid (Gv w (W4.setCell ⟨w.heap.size + 1 + 1, 2, none⟩ (.slice ao4 M co4)) C ⟨m.ver, m.ins, m.outs.take (k + 1), m.time⟩ bi di ao4 co4) := by
            have := J4.out
            rw [← TK.out]
            exact this
          exact ⟨⟨k + 1, ao4, co4, KK.out.1, by go_num, J5.out⟩, by simpa [intOf] using KK.out.2⟩
        · have h1 : ¬ (k : Int) < (m.outs.length : Int) := by omega
          rw [List.take_of_length_le (by omega)] at J
          clear hk hlt
          change Hid (Gv w wr C m bi di bo d0) at J
          go_wp2_with ((with_reducible refine at_list ?_); first | (refine wpList_loadA ATr rfl _ rfl (w.heap.size + 1 + 1) rfl (m.cells bi di bo d0) rfl 30 J.out.r2 ?_) | (refine wpList_storeA ATr rfl _ _ rfl (w.heap.size + 1) (m.cells bi di bo d0) rfl (m.one _ _ _ _) rfl rfl (zT.cells none 0 none 0) rfl 30 J.out.r1 ?_))
          refine bodyPost_ret (v := .agg (m.cells bi di bo d0)) (resA ATr Try.results4 _ _ (w.heap.size + 1) 30 _ rfl rfl (setRow_heap _ _ _ _ _ _ J.out.r1)) rfl ⟨bi, di, bo, d0, rfl, ⟨?_, ?_⟩, below_setRow J.out.bel (by omega) _⟩
          · exact (J.out.xi.of_block fun g hg => setRow_other _ _ _ _ (by have := J.out.fi g hg; omega)).read
          · exact (J.out.xo.of_block fun g hg => setRow_other _ _ _ _ (by have := J.out.fo g hg; omega)).read
end
end Go.Proofs.Ytkbfcfmjbgnhcaa
