/- chain.copyBlock of a block of one transaction: its contract. -/
import Derived.Test.YtcoojkpimbddlaaGreatDoorP0
import Derived.Test.YtcoojkpimbddlaaGreatDoorX41
import Derived.Test.YtcoojkpimbddlaaGreatDoorX23
namespace Go.Proofs.YtcoojkpimbddlaaGreatDoor
open Go.RowKit
open Go.Deep
open Go.Maps
set_option linter.unusedVariables false
set_option linter.unusedSimpArgs false
theorem bkA_put (h : Hd) (v u : Value) : (bkA h v).setIfInBounds 68 u = bkA h u := by
  rw [bkA, List.setIfInBounds_toArray, List.set_append_right _ _ (by rw [h.len]; omega), h.len]
  rfl
section
set_option maxRecDepth 10000
set_option maxHeartbeats 4000000
theorem copyB_one (h : Hd) (v : Value) (x : Tq) (w : World) (hL : LQ w v [x]) : Calls Tryz.prog 98 #[.agg (bkA h v)] w fun e w' => ∃ ao cap y, e = .returned (.agg (bkA h (.slice ao 1 cap))) ∧ (∀ W' : World, (∀ g, w.heap.size ≤ g → g < w'.heap.size → W'.heap[g]? = w'.heap[g]?) → LQ W' (.slice ao 1 cap) [y]) ∧ y.m = x.m ∧ Below w.heap.size w w' := by
  obtain ⟨av, cv, rfl⟩ := hL.l.form
  rw [show ([x] : List Tq).length = 1 from rfl] at *
  have s1 : (w.alloc (.cells (bkA h (.slice av 1 cv)) 62)).heap.size = w.heap.size + 1 := by simp
  have s2 : ((w.alloc (.cells (bkA h (.slice av 1 cv)) 62)).alloc (.cells (bkA zHd (.slice none 0 0)) 62)).heap.size = w.heap.size + 2 := by simp
  have r1 := (Below.heap_alloc _ (.cells (bkA zHd (.slice none 0 0)) 62) _ (lt_heap (heap_alloc_last w (.cells (bkA h (.slice av 1 cv)) 62)))).trans (heap_alloc_last w (.cells (bkA h (.slice av 1 cv)) 62))
  have r2 := heap_alloc_last (w.alloc (.cells (bkA h (.slice av 1 cv)) 62)) (.cells (bkA zHd (.slice none 0 0)) 62)
  have b1 := ((Below.refl w.heap.size w).alloc (Nat.le_refl _) (.cells (bkA h (.slice av 1 cv)) 62)).alloc (by rw [s1]; omega) (.cells (bkA zHd (.slice none 0 0)) 62)
  rw [s1] at r2
  have B0 := hide b1
  have R1 := hide r1
  have R2 := hide r2
  have LW := hide (show ((w.alloc (.cells (bkA h (.slice av 1 cv)) 62)).alloc (.cells (bkA zHd (.slice none 0 0)) 62)).heap.size = w.heap.size + 2 from s2)
  have c1 := bkA_txs R1.out
  have HC := hide (cloneT_any (.slice av 1 cv) [x] ((w.alloc (.cells (bkA h (.slice av 1 cv)) 62)).alloc (.cells (bkA zHd (.slice none 0 0)) 62)) (hL.below b1).l (by simp))
  have XC := hide ((hL.below b1).t x (by simp))
  have XC0 := hide (hL.t x (by simp))
  have XF := hide ((hL.below b1).t x (by simp)).2
  have BZ := hide (And.intro (bkA_size zHd (.slice none 0 0)) (bkA_all zHd none 0 0))
  have HA := hide (fun W l => cloneA_any (.slice x.ai x.m.ins.length x.ci) x.m.ins W l XF.out.i)
  have HO := hide (fun W l => cloneO_any (.slice x.ao x.m.outs.length x.co) x.m.outs W l XF.out.o)
  clear b1 r1 r2 hL s2
  generalize hW0 : (w.alloc (.cells (bkA h (.slice av 1 cv)) 62)).alloc (.cells (bkA zHd (.slice none 0 0)) 62) = W0 at *
  go_enter Tryz.func98, Tryz.ntmps98
  go_upto_region 1 with ((with_reducible refine at_list ?_); first | refine wpList_boxA rfl _ rfl (bkA h (.slice av 1 cv)) rfl ?_ | (refine wpList_allocA ABk rfl rfl ?_))
  try rw [s1]
  rw [hW0]
  clear hW0 s1
  have f1 := fun (W : World) (b : Below W0.heap.size W0 W) => frozen_of_row W w.heap.size 68 _ _ ((b.block _ (lt_heap R1.out)).trans R1.out)
  have c1' := fun (W : World) (b : Below W0.heap.size W0 W) => bkA_txs ((b.block _ (lt_heap R1.out)).trans R1.out)
  have F1 := hide f1
  have C1' := hide c1'
  clear f1 c1'
  go_upto_region 2 with (go_at_call 168; refine HC.out.mono ?_; rintro r W1 ⟨v', rfl, ox, be, fa⟩; obtain ⟨g, cap, cur, rfl, hcap, hg, hr⟩ := ox.row1; have D1 := hide be; have GW := hide (fa g rfl); have d1 := C1'.out _ be; have e1 := F1.out _ be; clear ox be fa)
  have NG0 : Hid (g ≠ w.heap.size ∧ g ≠ w.heap.size + 1) := by
    have q1 := GW.out
    have q2 := LW.out
    rw [q2] at q1
    exact ⟨by omega, by omega⟩
  have HG := hide ((Below.heap_setCell W1 ⟨w.heap.size, 68, none⟩ (.slice (some ⟨g, 0, none⟩) 1 cap) g NG0.out.1).trans hg)
  have HR : Hid ((W1.setCell ⟨w.heap.size, 68, none⟩ (.slice (some ⟨g, 0, none⟩) 1 cap)).rangeAt g 0 x.cells) := range_block hr (Below.heap_setCell W1 ⟨w.heap.size, 68, none⟩ (.slice (some ⟨g, 0, none⟩) 1 cap) g NG0.out.1)
  have r1' := heap_setCell_same W1 w.heap.size 68 _ _ (.slice (some ⟨g, 0, none⟩) 1 cap) ((D1.out.block _ (lt_heap R1.out)).trans R1.out)
  rw [bkA_put] at r1'
  have R1b := hide r1'
  have R2b := hide ((Below.heap_setCell W1 ⟨w.heap.size, 68, none⟩ (.slice (some ⟨g, 0, none⟩) 1 cap) (w.heap.size + 1) (by show w.heap.size + 1 ≠ w.heap.size; omega)).trans ((D1.out.block _ (lt_heap R2.out)).trans R2.out))
  have D2 : Hid (Below w.heap.size w (W1.setCell ⟨w.heap.size, 68, none⟩ (.slice (some ⟨g, 0, none⟩) 1 cap))) := (below_next B0.out D1.out).setCell (p := ⟨w.heap.size, 68, none⟩) (Nat.le_refl _) _
  have XC2 : Hid (x.can (W1.setCell ⟨w.heap.size, 68, none⟩ (.slice (some ⟨g, 0, none⟩) 1 cap))) := (XC0.out.below D2.out)
  have W0S : W0.heap.size ≤ (W1.setCell ⟨w.heap.size, 68, none⟩ (.slice (some ⟨g, 0, none⟩) 1 cap)).heap.size := by
    have := D1.out.size
    simpa [World.setCell] using this
  clear HC hg hr r1' d1 e1 c1 R1 R2 D1 B0 F1 C1' XC
  generalize W1.setCell ⟨w.heap.size, 68, none⟩ (.slice (some ⟨g, 0, none⟩) 1 cap) = W2 at *
  have W02 : Hid (W0.heap.size ≤ W2.heap.size) := W0S
  have c2 := bkA_txs R1b.out
  go_upto_region 3 with fail
  clear c2
  go_loopw [12] (fun i wr => (i = .int .i64 0 ∧ Hid (wr = W2)) ∨ (i = .int .i64 1 ∧ Hid (∃ y, (∀ W' : World, (∀ g, W0.heap.size ≤ g → g < wr.heap.size → W'.heap[g]? = wr.heap[g]?) → LQ W' (.slice (some ⟨g, 0, none⟩) 1 cap) [y]) ∧ y.m = x.m ∧ Below w.heap.size w wr ∧ wr.heap[w.heap.size]? = some (.cells (bkA h (.slice (some ⟨g, 0, none⟩) 1 cap)) 62 (0, 0)) ∧ wr.heap[w.heap.size + 1]? = some (.cells (bkA zHd (.slice none 0 0)) 62 (0, 0))))) (fun i _ => (1 - intOf i).toNat)
  case atStart => exact .inl ⟨rfl, rfl⟩
  case round =>
    rcases hrel with ⟨rfl, hw⟩ | ⟨rfl, J⟩
    · have hw2 := hw.out
      subst hw2
      have XZ : Hid (x.arr.size = 4) := rfl
      have XA := hide (x.m.one x.ai x.ci x.ao x.co)
      go_upto_region 5 with ((with_reducible refine at_list ?_); first | refine wpLoadT _ rfl g 0 rfl x HR.out (by rfl) ?_ | refine wpList_allocA AT rfl rfl ?_ | refine wpList_store_newA AT rfl _ _ rfl _ rfl x.arr XZ.out XA.out rfl rfl ?_)
      have ba := (Below.refl wr.heap.size wr).alloc (Nat.le_refl _) (.cells x.arr 152)
      have BW := hide (below_next D2.out ba)
      have RX := hide (heap_alloc_last wr (.cells x.arr 152))
      have HG2 := hide ((ba.block _ (lt_heap HG.out)).trans HG.out)
      have HR2 : Hid ((wr.alloc (.cells x.arr 152)).rangeAt g 0 x.cells) := rangeX_below HR.out ba (lt_heap HG.out)
      have XT2 := hide (XC2.out.below ba)
      have NG : Hid (g ≠ wr.heap.size) := Nat.ne_of_lt (lt_heap HG.out)
      have R1c := hide ((ba.block _ (lt_heap R1b.out)).trans R1b.out)
      have R2c := hide ((ba.block _ (lt_heap R2b.out)).trans R2b.out)
      have W04 : Hid (W0.heap.size ≤ (wr.alloc (.cells x.arr 152)).heap.size) := Nat.le_trans W02.out ba.size
      clear ba HG HR XC2 R1b R2b D2
      generalize wr.alloc (.cells x.arr 152) = W4 at *
      generalize wr.heap.size = g5 at *
      have SS : Hid (∀ W, Below W4.heap.size W4 W → Below w.heap.size w W ∧ W.heap[g5]? = some (.cells x.arr 152 (0, 0)) ∧ W.heap[w.heap.size]? = some (.cells (bkA h (.slice (some ⟨g, 0, none⟩) 1 cap)) 62 (0, 0)) ∧ W.heap[w.heap.size + 1]? = some (.cells (bkA zHd (.slice none 0 0)) 62 (0, 0))) := fun W bw => ⟨below_next BW.out bw, (bw.block _ (lt_heap RX.out)).trans RX.out, (bw.block _ (lt_heap R1c.out)).trans R1c.out, (bw.block _ (lt_heap R2c.out)).trans R2c.out⟩
      have DV1 := hide ((Below.refl W4.heap.size W4).drew)
      refine wp_region_held_drew (S := fun W => Below w.heap.size w W ∧ W.heap[g5]? = some (.cells x.arr 152 (0, 0)) ∧ W.heap[w.heap.size]? = some (.cells (bkA h (.slice (some ⟨g, 0, none⟩) 1 cap)) 62 (0, 0)) ∧ W.heap[w.heap.size + 1]? = some (.cells (bkA zHd (.slice none 0 0)) 62 (0, 0))) (by kernel_rfl) (SS.out _ DV1.out) (fun hH => ?_)
      generalize hWd : W4.drew = V1 at *
      clear hWd
      refine wt (i := 0) (v := (.pointer (some ⟨w.heap.size, 68, none⟩))) rfl (.inl ⟨by rfl, fun W _ => by go_simp⟩) hH ?_
      change wpAnyH _ _ _ _ _ _ _ (Act.put _ (some 17) _) _
      simp only [Act.put, List.setIfInBounds_toArray, List.set_cons_zero, List.set_cons_succ]
      refine wt (i := 1) (v := (.slice (some ⟨g, 0, none⟩) 1 cap)) rfl (.inl ⟨by rfl, fun W hS => by have c4 := bkA_txs hS.2.2.1; go_simp⟩) hH ?_
      change wpAnyH _ _ _ _ _ _ _ (Act.put _ (some 18) _) _
      simp only [Act.put, List.setIfInBounds_toArray, List.set_cons_zero, List.set_cons_succ]
      refine wt (i := 2) (v := (.int .i64 0)) rfl (yl_move (by rfl) _ (by rfl) _ (by rfl)) hH ?_
      change wpAnyH _ _ _ _ _ _ _ (Act.put _ (some 19) _) _
      simp only [Act.put, List.setIfInBounds_toArray, List.set_cons_zero, List.set_cons_succ]
      refine wt (i := 3) (v := (.pointer (some ⟨w.heap.size, 68, none⟩))) rfl (.inl ⟨by rfl, fun W _ => by go_simp⟩) hH ?_
      change wpAnyH _ _ _ _ _ _ _ (Act.put _ (some 20) _) _
      simp only [Act.put, List.setIfInBounds_toArray, List.set_cons_zero, List.set_cons_succ]
      refine wt (i := 4) (v := (.slice (some ⟨g, 0, none⟩) 1 cap)) rfl (.inl ⟨by rfl, fun W hS => by have c4 := bkA_txs hS.2.2.1; go_simp⟩) hH ?_
      change wpAnyH _ _ _ _ _ _ _ (Act.put _ (some 21) _) _
      simp only [Act.put, List.setIfInBounds_toArray, List.set_cons_zero, List.set_cons_succ]
      refine wt (i := 5) (v := (.int .i64 0)) rfl (yl_move (by rfl) _ (by rfl) _ (by rfl)) hH ?_
      change wpAnyH _ _ _ _ _ _ _ (Act.put _ (some 22) _) _
      simp only [Act.put, List.setIfInBounds_toArray, List.set_cons_zero, List.set_cons_succ]
      refine wt (i := 6) (v := (.pointer (some ⟨g5, 1, none⟩))) rfl (.inl ⟨by rfl, fun W _ => by go_simp⟩) hH ?_
      change wpAnyH _ _ _ _ _ _ _ (Act.put _ (some 23) _) _
      simp only [Act.put, List.setIfInBounds_toArray, List.set_cons_zero, List.set_cons_succ]
      refine wt (i := 7) (v := (.slice x.ai x.m.ins.length x.ci)) rfl (.inl ⟨by rfl, fun W hS => by have c4 := x.ins0 (rowAt x.cells hS.2.1); go_simp⟩) hH ?_
      change wpAnyH _ _ _ _ _ _ _ (Act.put _ (some 24) _) _
      simp only [Act.put, List.setIfInBounds_toArray, List.set_cons_zero, List.set_cons_succ]
      refine wt (i := 9) (v := (.pointer (some ⟨g5, 2, none⟩))) rfl (.inl ⟨by rfl, fun W _ => by go_simp⟩) hH ?_
      change wpAnyH _ _ _ _ _ _ _ (Act.put _ (some 26) _) _
      simp only [Act.put, List.setIfInBounds_toArray, List.set_cons_zero, List.set_cons_succ]
      refine wt (i := 10) (v := (.slice x.ao x.m.outs.length x.co)) rfl (.inl ⟨by rfl, fun W hS => by have c4 := x.outs0 (rowAt x.cells hS.2.1); go_simp⟩) hH ?_
      change wpAnyH _ _ _ _ _ _ _ (Act.put _ (some 27) _) _
      simp only [Act.put, List.setIfInBounds_toArray, List.set_cons_zero, List.set_cons_succ]
      refine wpAnyH_ready (rs := [8]) (by kernel_rfl) (by simp) (AllReadyH.cons rfl (fun K1 hK1 => ?_) AllReadyH.nil)
      go_simp
      refine (HA.out V1 (XT2.out.below DV1.out).1.i).mono ?_
      rintro r V2 ⟨v1, rfl, ox1, be1, fa1⟩
      obtain ⟨ai', ci', rfl⟩ := ox1.form
      have DV2 := hide (below_next DV1.out be1)
      have FA1 := hide fa1
      have VS := hide be1.size
      have O1 := hide ox1
      refine hK1.out _ _ (SS.out _ DV2.out) (fun hH => ?_)
      clear hK1 be1 ox1 fa1
      refine wpAnyH_ready (rs := [11]) (by kernel_rfl) (by simp) (AllReadyH.cons rfl (fun K1 hK1 => ?_) AllReadyH.nil)
      go_simp
      refine (HO.out V2 (XT2.out.below DV2.out).1.o).mono ?_
      rintro r V3 ⟨v2, rfl, ox2, be2, fa2⟩
      obtain ⟨ao', co', rfl⟩ := ox2.form
      have DV3 := hide (below_next DV2.out be2)
      have FA2 := hide fa2
      have O2 := hide ox2
      have O3 := hide (O1.out.below be2)
      refine hK1.out _ _ (SS.out _ DV3.out) (fun hH => ?_)
      clear hK1 be2 ox2 fa2
      refine wt (i := 12) (v := (.pointer (some ⟨g, 0, none⟩))) rfl (.inl ⟨by rfl, fun W _ => by go_simp⟩) hH ?_
      change wpAnyH _ _ _ _ _ _ _ (Act.put _ (some 29) _) _
      simp only [Act.put, List.setIfInBounds_toArray, List.set_cons_zero, List.set_cons_succ]
      refine wt (i := 13) (v := (.pointer (some ⟨g, 1, none⟩))) rfl (.inl ⟨by rfl, fun W _ => by go_simp⟩) hH ?_
      change wpAnyH _ _ _ _ _ _ _ (Act.put _ (some 30) _) _
      simp only [Act.put, List.setIfInBounds_toArray, List.set_cons_zero, List.set_cons_succ]
      have bm := hide (And.intro (DV3.out.block _ (lt_heap HG2.out)) (rangeX_below HR2.out DV3.out (lt_heap HG2.out)))
      have HG3 := hide (bm.out.1.trans HG2.out)
      have HR3 := hide bm.out.2
      have LG := hide (Nat.lt_of_lt_of_le (lt_heap HG2.out) DV1.out.size)
      have FB1 : Hid (∀ k, (Value.slice ai' x.m.ins.length ci').ownBlock = some k → k ≠ g) := fun k hk => by have := FA1.out k hk; have := LG.out; omega
      have FB2 : Hid (∀ k, (Value.slice ao' x.m.outs.length co').ownBlock = some k → k ≠ g) := fun k hk => by have h1 := FA2.out k hk; have h2 := LG.out; have h3 := O1.out; have h4 : V1.heap.size ≤ V2.heap.size := VS.out; omega
      have c1 := x.ins0 HR3.out
      have f1 := frozen_of_row V3 g 1 _ _ HG3.out
      refine wpAnyH_ready (rs := [14]) (by kernel_rfl) (by simp) (AllReadyH.cons rfl (fun K1 hK1 => ?_) AllReadyH.nil)
      go_simp
      have FR1 := hide (Rfr.setCell g V3 1 (.slice ai' x.m.ins.length ci'))
      have c2 : (V3.setCell ⟨g, 1, none⟩ (.slice ai' x.m.ins.length ci')).cell? ⟨g, 2, none⟩ = some (.slice x.ao x.m.outs.length x.co) := (cell_set_ne _ _ _ _ _ (by omega)).trans (x.outs0 HR3.out)
      have f2 := frozen_of_row (V3.setCell ⟨g, 1, none⟩ (.slice ai' x.m.ins.length ci')) g 2 _ _ (heap_setCell_same V3 g 1 _ _ _ HG3.out)
      have GW' : Hid (w.heap.size ≤ g) := by have q1 := GW.out; have q2 := LW.out; show _ ≤ _; omega
      have S3 := hide (SS.out _ DV3.out)
      refine hK1.out _ _ ⟨S3.out.1.trans (FR1.out.to_below GW'.out S3.out.1.size), (FR1.out.block _ (lt_heap S3.out.2.1) (Ne.symm NG.out)).trans S3.out.2.1, (FR1.out.block _ (lt_heap S3.out.2.2.1) (Ne.symm NG0.out.1)).trans S3.out.2.2.1, (FR1.out.block _ (lt_heap S3.out.2.2.2) (Ne.symm NG0.out.2)).trans S3.out.2.2.2⟩ (fun hH => ?_)
      clear hK1 c1 f1
      refine wt (i := 15) (v := (.pointer (some ⟨g, 0, none⟩))) rfl (.inl ⟨by rfl, fun W _ => by go_simp⟩) hH ?_
      change wpAnyH _ _ _ _ _ _ _ (Act.put _ (some 31) _) _
      simp only [Act.put, List.setIfInBounds_toArray, List.set_cons_zero, List.set_cons_succ]
      refine wt (i := 16) (v := (.pointer (some ⟨g, 2, none⟩))) rfl (.inl ⟨by rfl, fun W _ => by go_simp⟩) hH ?_
      change wpAnyH _ _ _ _ _ _ _ (Act.put _ (some 32) _) _
      simp only [Act.put, List.setIfInBounds_toArray, List.set_cons_zero, List.set_cons_succ]
      have FR2 := hide (FR1.out.trans (Rfr.setCell g (V3.setCell ⟨g, 1, none⟩ (.slice ai' x.m.ins.length ci')) 2 (.slice ao' x.m.outs.length co')))
      have RY := hide (Tq.set2 x ⟨x.m, ai', ci', ao', co'⟩ rfl HG3.out HR3.out)
      have BY := hide (S3.out.1.trans (FR2.out.to_below GW'.out S3.out.1.size))
      have Y1 := hide ((FR2.out.block _ (lt_heap S3.out.2.2.1) (Ne.symm NG0.out.1)).trans S3.out.2.2.1)
      have Y2 := hide ((FR2.out.block _ (lt_heap S3.out.2.2.2) (Ne.symm NG0.out.2)).trans S3.out.2.2.2)
      refine wpAnyH_ready (rs := [17]) (by kernel_rfl) (by simp) (AllReadyH.cons rfl (fun K1 hK1 => ?_) AllReadyH.nil)
      go_simp
      refine hK1.out _ _ ⟨BY.out, (FR2.out.block _ (lt_heap S3.out.2.1) (Ne.symm NG.out)).trans S3.out.2.1, Y1.out, Y2.out⟩ (fun hH => ?_)
      clear hK1 c2 f2
      have WS : Hid (W0.heap.size ≤ V1.heap.size) := Nat.le_trans W04.out DV1.out.size
      have GB1 : Hid (∀ k, (Value.slice ai' x.m.ins.length ci').ownBlock = some k → W0.heap.size ≤ k) := fun k hk => by have h1 := FA1.out k hk; have h2 := WS.out; omega
      have GB2 : Hid (∀ k, (Value.slice ao' x.m.outs.length co').ownBlock = some k → W0.heap.size ≤ k) := fun k hk => by have h1 := FA2.out k hk; have h2 := WS.out; have h4 : V1.heap.size ≤ V2.heap.size := VS.out; omega
      have HGY := hide (heap_setCell_same _ g 2 _ _ (.slice ao' x.m.outs.length co') (heap_setCell_same V3 g 1 _ _ (.slice ai' x.m.ins.length ci') HG3.out))
      have LL : Hid (∀ W' : World, (∀ g', W0.heap.size ≤ g' → g' < ((V3.setCell ⟨g, 1, none⟩ (.slice ai' x.m.ins.length ci')).setCell ⟨g, 2, none⟩ (.slice ao' x.m.outs.length co')).heap.size → W'.heap[g']? = ((V3.setCell ⟨g, 1, none⟩ (.slice ai' x.m.ins.length ci')).setCell ⟨g, 2, none⟩ (.slice ao' x.m.outs.length co')).heap[g']?) → LQ W' (.slice (some ⟨g, 0, none⟩) 1 cap) [⟨x.m, ai', ci', ao', co'⟩]) := fun W' ag => ⟨⟨_, cap, rfl, hcap, fun i hi => by
          have h0 : i = 0 := by simpa using hi
          subst h0
          refine ⟨g, 0, rfl, lt_heap ((ag g GW.out (lt_heap HGY.out)).trans HGY.out), ?_⟩
          rw [Nat.zero_mul]
          exact range_block RY.out (ag g GW.out (lt_heap HGY.out))⟩, fun y hy => by
          rw [List.mem_singleton] at hy
          subst hy
          exact ⟨⟨(O3.out.of_block fun k hk => (ag k (GB1.out k hk) (Nat.lt_of_lt_of_le (O3.out.lt k hk) FR2.out.size)).trans (FR2.out.block k (O3.out.lt k hk) (FB1.out k hk))).read, (O2.out.of_block fun k hk => (ag k (GB2.out k hk) (Nat.lt_of_lt_of_le (O2.out.lt k hk) FR2.out.size)).trans (FR2.out.block k (O2.out.lt k hk) (FB2.out k hk))).read⟩, XF.out⟩⟩
      generalize (V3.setCell ⟨g, 1, none⟩ (.slice ai' x.m.ins.length ci')).setCell ⟨g, 2, none⟩ (.slice ao' x.m.outs.length co') = V5 at *
      refine wpAnyH_done (by kernel_rfl) ?_ _
      clear hH
      go_wp2
      exact ⟨.inr ⟨rfl, _, LL.out, rfl, BY.out, Y1.out, Y2.out⟩, by simp [intOf]⟩
    · obtain ⟨y, h1, h2, h3, h4, h5⟩ := J.out
      have Q1 := hide h1
      have Q2 := hide h2
      have Q3 := hide h3
      have Q4 := hide h4
      have Q5 := hide h5
      have BA := hide (And.intro (bkA_size h (.slice (some ⟨g, 0, none⟩) 1 cap)) (bkA_all h (some ⟨g, 0, none⟩) 1 cap))
      clear J h1 h2 h3 h4 h5
      generalize hCB : bkA h (.slice (some ⟨g, 0, none⟩) 1 cap) = CB at *
      have HCB := hide hCB
      clear hCB
      go_wp2_with ((with_reducible refine at_list ?_); first | refine wpList_loadS ABk _ rfl w.heap.size rfl CB BA.out.1 62 Q4.out (by rfl) ?_ | refine wpList_storeA ABk rfl _ _ rfl (w.heap.size + 1) CB BA.out.1 BA.out.2 rfl rfl (bkA zHd (.slice none 0 0)) BZ.out.1 62 Q5.out ?_)
      exact bodyPost_ret (v := .agg CB) (resA ABk Tryz.results98 _ _ (w.heap.size + 1) 62 _ BA.out.1 rfl (setRow_heap _ _ _ _ _ _ Q5.out)) rfl ⟨_, cap, y, by rw [HCB.out], fun W' ag => Q1.out W' (fun g' h1 h2 => (ag g' (by have := LW.out; omega) (by simpa using h2)).trans (setRow_other _ _ _ _ (by have := LW.out; omega))), Q2.out, below_setRow Q3.out (by omega) _⟩
end
end Go.Proofs.YtcoojkpimbddlaaGreatDoor
