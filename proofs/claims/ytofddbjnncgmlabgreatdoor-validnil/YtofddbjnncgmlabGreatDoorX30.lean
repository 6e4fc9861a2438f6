/- block.cloneTxs of one transaction: its contract. block.Build of one transaction: its contract. The first block: block.Genesis. -/
import Derived.Test.YtofddbjnncgmlabGreatDoorX29
import Derived.Test.YtofddbjnncgmlabGreatDoorX26
namespace Go.Proofs.YtofddbjnncgmlabGreatDoor
open Go.RowKit
open Go.Deep
set_option linter.unusedVariables false
theorem OX.row1 {W : World} {v : Value} {x : Tq} (h : OX KT W v [x]) : ∃ g cap cur, v = .slice (some ⟨g, 0, none⟩) 1 cap ∧ 1 ≤ cap ∧ W.heap[g]? = some (.cells cur 90 (0, 0)) ∧ W.rangeAt g 0 x.cells := by
  have hr := h.read
  obtain ⟨h2, h3⟩ := h
  rcases h3 with ⟨rfl, h0⟩ | ⟨g, cap, cur, rfl, hb, hg, hn, hm, hsz, ht⟩
  · cases h0
  · refine ⟨g, cap, cur, rfl, hn, hg, ?_⟩
    have := LX.range hr 0 (by simp)
    rw [Nat.zero_mul] at this
    exact this
theorem Tq.ins0 {W : World} {g : Nat} (x : Tq) (r : W.rangeAt g 0 x.cells) : W.cell? ⟨g, 1, none⟩ = some (.slice x.ai x.m.ins.length x.ci) := by
  have := r 1 _ rfl
  exact this
theorem Tq.outs0 {W : World} {g : Nat} (x : Tq) (r : W.rangeAt g 0 x.cells) : W.cell? ⟨g, 2, none⟩ = some (.slice x.ao x.m.outs.length x.co) := by
  have := r 2 _ rfl
  exact this
theorem Tq.set2 {W : World} {g : Nat} {cur : Array Value} {t : TypeId} (x y : Tq) (hm : y.m = x.m) (hg : W.heap[g]? = some (.cells cur t (0, 0))) (hr : W.rangeAt g 0 x.cells) : ((W.setCell ⟨g, 1, none⟩ (.slice y.ai y.m.ins.length y.ci)).setCell ⟨g, 2, none⟩ (.slice y.ao y.m.outs.length y.co)).rangeAt g 0 y.cells := by
  have h2 := heap_setCell_same _ g 2 _ _ (.slice y.ao y.m.outs.length y.co) (heap_setCell_same W g 1 _ _ (.slice y.ai y.m.ins.length y.ci) hg)
  have c0 : cur[0]? = some (.int .u32 (x.m.ver.toNat : Int)) := by rw [← cell_of_row W g 0 _ _ _ hg]; exact hr 0 _ rfl
  have c3 : cur[3]? = some (.int .u32 (x.m.time.toNat : Int)) := by rw [← cell_of_row W g 3 _ _ _ hg]; exact hr 3 _ rfl
  have hs : 3 < cur.size := (Array.getElem?_eq_some_iff.1 c3).1
  intro j v hv
  rw [cell_of_row _ _ _ _ _ _ h2, Nat.zero_add]
  simp only [Array.getElem?_setIfInBounds, Array.size_setIfInBounds]
  match j, hv with
  | 0, hv =>
    rw [if_neg (by decide), if_neg (by decide), c0, ← hm]
    exact hv
  | 1, hv =>
    rw [if_neg (by decide), if_pos rfl, if_pos (by omega)]
    exact hv
  | 2, hv =>
    rw [if_pos rfl, if_pos (by omega)]
    exact hv
  | 3, hv =>
    rw [if_neg (by decide), if_neg (by decide), c3, ← hm]
    exact hv
  | j + 4, hv => simp [Tq.cells] at hv
section
set_option maxRecDepth 10000
set_option maxHeartbeats 4000000
theorem cloneTxs_one (v : Value) (x : Tq) (w : World) (hL : LQ w v [x]) : Calls Tryz.prog 103 #[v] w fun e w' => ∃ ao cap y, e = .returned (.slice ao 1 cap) ∧ (∀ W' : World, (∀ g, w.heap.size ≤ g → g < w'.heap.size → W'.heap[g]? = w'.heap[g]?) → LQ W' (.slice ao 1 cap) [y]) ∧ y.m = x.m ∧ Below w.heap.size w w' := by
  have HC := hide (cloneT_any v [x] w hL.l (by simp))
  obtain ⟨av, cv, rfl⟩ := hL.l.form
  have XC := hide (hL.t x (by simp))
  have XF := hide (hL.t x (by simp)).2
  clear hL
  have HA := hide (fun W l => cloneA_any (.slice x.ai x.m.ins.length x.ci) x.m.ins W l XF.out.i)
  have HO := hide (fun W l => cloneO_any (.slice x.ao x.m.outs.length x.co) x.m.outs W l XF.out.o)
  have e1 : (([x] : List Tq).length : Int) = 1 := rfl
  go_enter Tryz.func103, Tryz.ntmps103
  go_upto_region 2 with (go_at_call 135; refine HC.out.mono ?_; rintro r W1 ⟨v', rfl, ox, be, fa⟩; have OXX := hide ox; have D1 := hide be; have FA := hide fa; clear ox be fa)
  obtain ⟨g, cap, cur, rfl, hcap, hg, hr⟩ := OXX.out.row1
  have HG := hide hg
  have HR := hide hr
  have GW := hide (FA.out g rfl)
  clear HC OXX FA hg hr
  go_upto_region 3 with fail
  go_loopw [10] (fun i wr => (i = .int .i64 0 ∧ Hid (wr = W1)) ∨ (i = .int .i64 1 ∧ Hid (∃ y, (∀ W' : World, (∀ g, w.heap.size ≤ g → g < wr.heap.size → W'.heap[g]? = wr.heap[g]?) → LQ W' (.slice (some ⟨g, 0, none⟩) 1 cap) [y]) ∧ y.m = x.m ∧ Below w.heap.size w wr))) (fun i _ => (1 - intOf i).toNat)
  case atStart => exact .inl ⟨rfl, rfl⟩
  case round =>
    rcases hrel with ⟨rfl, hw⟩ | ⟨rfl, J⟩
    · have hw2 := hw.out
      subst hw2
      have XZ : Hid (x.arr.size = 4) := rfl
      have XA := hide (x.m.one x.ai x.ci x.ao x.co)
      have XT := hide (XC.out.below D1.out)
      go_upto_region 5 with ((with_reducible refine at_list ?_); first | refine wpLoadT _ rfl g 0 rfl x HR.out (by rfl) ?_ | refine wpList_allocA AT rfl rfl ?_ | refine wpList_store_newA AT rfl _ _ rfl _ rfl x.arr XZ.out XA.out rfl rfl ?_)
      have ba := (Below.refl wr.heap.size wr).alloc (Nat.le_refl _) (.cells x.arr 90)
      have BW := hide (below_next D1.out ba)
      have RX := hide (heap_alloc_last wr (.cells x.arr 90))
      have HG2 := hide ((ba.block _ (lt_heap HG.out)).trans HG.out)
      have HR2 : Hid ((wr.alloc (.cells x.arr 90)).rangeAt g 0 x.cells) := rangeX_below HR.out ba (lt_heap HG.out)
      have XT2 := hide (XT.out.below ba)
      have NG : Hid (g ≠ wr.heap.size) := Nat.ne_of_lt (lt_heap HG.out)
      clear ba HG HR XT
      generalize wr.alloc (.cells x.arr 90) = W4 at *
      generalize wr.heap.size = g5 at *
      have SS : Hid (∀ W, Below W4.heap.size W4 W → Below w.heap.size w W ∧ W.heap[g5]? = some (.cells x.arr 90 (0, 0))) := fun W bw => ⟨below_next BW.out bw, (bw.block _ (lt_heap RX.out)).trans RX.out⟩
      have DV1 := hide ((Below.refl W4.heap.size W4).drew)
      refine wp_region_held_drew (S := fun W => Below w.heap.size w W ∧ W.heap[g5]? = some (.cells x.arr 90 (0, 0))) (by kernel_rfl) (SS.out _ DV1.out) (fun hH => ?_)
      generalize hWd : W4.drew = V1 at *
      clear hWd
      refine wpAnyH_take (i := 0) (v := (.slice (some ⟨g, 0, none⟩) 1 cap)) rfl (by kernel_rfl) (by kernel_rfl) (by kernel_rfl) (fun _ _ _ h => h) (yl_move (by rfl) _ (by rfl) _ (by rfl)) hH ?_
      change wpAnyH _ _ _ _ _ _ _ (Act.put _ (some 15) _) _
      simp only [Act.put, List.setIfInBounds_toArray, List.set_cons_zero, List.set_cons_succ]
      refine wpAnyH_take (i := 1) (v := (.int .i64 0)) rfl (by kernel_rfl) (by kernel_rfl) (by kernel_rfl) (fun _ _ _ h => h) (yl_move (by rfl) _ (by rfl) _ (by rfl)) hH ?_
      change wpAnyH _ _ _ _ _ _ _ (Act.put _ (some 16) _) _
      simp only [Act.put, List.setIfInBounds_toArray, List.set_cons_zero, List.set_cons_succ]
      refine wpAnyH_take (i := 2) (v := (.slice (some ⟨g, 0, none⟩) 1 cap)) rfl (by kernel_rfl) (by kernel_rfl) (by kernel_rfl) (fun _ _ _ h => h) (yl_move (by rfl) _ (by rfl) _ (by rfl)) hH ?_
      change wpAnyH _ _ _ _ _ _ _ (Act.put _ (some 17) _) _
      simp only [Act.put, List.setIfInBounds_toArray, List.set_cons_zero, List.set_cons_succ]
      refine wpAnyH_take (i := 3) (v := (.int .i64 0)) rfl (by kernel_rfl) (by kernel_rfl) (by kernel_rfl) (fun _ _ _ h => h) (yl_move (by rfl) _ (by rfl) _ (by rfl)) hH ?_
      change wpAnyH _ _ _ _ _ _ _ (Act.put _ (some 18) _) _
      simp only [Act.put, List.setIfInBounds_toArray, List.set_cons_zero, List.set_cons_succ]
      refine wpAnyH_take (i := 4) (v := (.pointer (some ⟨g5, 1, none⟩))) rfl (by kernel_rfl) (by kernel_rfl) (by kernel_rfl) (fun _ _ _ h => h) (.inl ⟨by rfl, fun W _ => by go_simp⟩) hH ?_
      change wpAnyH _ _ _ _ _ _ _ (Act.put _ (some 19) _) _
      simp only [Act.put, List.setIfInBounds_toArray, List.set_cons_zero, List.set_cons_succ]
      refine wpAnyH_take (i := 5) (v := (.slice x.ai x.m.ins.length x.ci)) rfl (by kernel_rfl) (by kernel_rfl) (by kernel_rfl) (fun _ _ _ h => h) (.inl ⟨by rfl, fun W hS => by have c4 := x.ins0 (rowAt x.cells hS.2); go_simp⟩) hH ?_
      change wpAnyH _ _ _ _ _ _ _ (Act.put _ (some 20) _) _
      simp only [Act.put, List.setIfInBounds_toArray, List.set_cons_zero, List.set_cons_succ]
      refine wpAnyH_take (i := 7) (v := (.pointer (some ⟨g5, 2, none⟩))) rfl (by kernel_rfl) (by kernel_rfl) (by kernel_rfl) (fun _ _ _ h => h) (.inl ⟨by rfl, fun W _ => by go_simp⟩) hH ?_
      change wpAnyH _ _ _ _ _ _ _ (Act.put _ (some 22) _) _
      simp only [Act.put, List.setIfInBounds_toArray, List.set_cons_zero, List.set_cons_succ]
      refine wpAnyH_take (i := 8) (v := (.slice x.ao x.m.outs.length x.co)) rfl (by kernel_rfl) (by kernel_rfl) (by kernel_rfl) (fun _ _ _ h => h) (.inl ⟨by rfl, fun W hS => by have c4 := x.outs0 (rowAt x.cells hS.2); go_simp⟩) hH ?_
      change wpAnyH _ _ _ _ _ _ _ (Act.put _ (some 23) _) _
      simp only [Act.put, List.setIfInBounds_toArray, List.set_cons_zero, List.set_cons_succ]
      refine wpAnyH_ready (rs := [6]) (by kernel_rfl) (by simp) (AllReadyH.cons rfl (fun K1 hK1 => ?_) AllReadyH.nil)
      go_simp
      refine (HA.out V1 (XT2.out.below DV1.out).1.i).mono ?_
      rintro r V2 ⟨v1, rfl, ox1, be1, fa1⟩
      obtain ⟨ai', ci', rfl⟩ := ox1.form
      have DV2 := hide (below_next DV1.out be1)
      have FA1 := hide fa1
      have VS := hide be1.size
      have O1 := hide ox1
      refine hK1.out _ _ (SS.out _ DV2.out) (fun hH => ?_)
      clear hK1 be1 ox1 fa1
      refine wpAnyH_ready (rs := [9]) (by kernel_rfl) (by simp) (AllReadyH.cons rfl (fun K1 hK1 => ?_) AllReadyH.nil)
      go_simp
      refine (HO.out V2 (XT2.out.below DV2.out).1.o).mono ?_
      rintro r V3 ⟨v2, rfl, ox2, be2, fa2⟩
      obtain ⟨ao', co', rfl⟩ := ox2.form
      have DV3 := hide (below_next DV2.out be2)
      have FA2 := hide fa2
      have O2 := hide ox2
      have O3 := hide (O1.out.below be2)
      refine hK1.out _ _ (SS.out _ DV3.out) (fun hH => ?_)
      clear hK1 be2 ox2 fa2
      refine wpAnyH_take (i := 10) (v := (.pointer (some ⟨g, 0, none⟩))) rfl (by kernel_rfl) (by kernel_rfl) (by kernel_rfl) (fun _ _ _ h => h) (.inl ⟨by rfl, fun W _ => by go_simp⟩) hH ?_
      change wpAnyH _ _ _ _ _ _ _ (Act.put _ (some 25) _) _
      simp only [Act.put, List.setIfInBounds_toArray, List.set_cons_zero, List.set_cons_succ]
      refine wpAnyH_take (i := 11) (v := (.pointer (some ⟨g, 1, none⟩))) rfl (by kernel_rfl) (by kernel_rfl) (by kernel_rfl) (fun _ _ _ h => h) (.inl ⟨by rfl, fun W _ => by go_simp⟩) hH ?_
      change wpAnyH _ _ _ _ _ _ _ (Act.put _ (some 26) _) _
      simp only [Act.put, List.setIfInBounds_toArray, List.set_cons_zero, List.set_cons_succ]
      have bm := hide (And.intro (DV3.out.block _ (lt_heap HG2.out)) (rangeX_below HR2.out DV3.out (lt_heap HG2.out)))
      have HG3 := hide (bm.out.1.trans HG2.out)
      have HR3 := hide bm.out.2
      have LG := hide (Nat.lt_of_lt_of_le (lt_heap HG2.out) DV1.out.size)
      have FB1 : Hid (∀ k, (Value.slice ai' x.m.ins.length ci').ownBlock = some k → k ≠ g) := fun k hk => by have := FA1.out k hk; have := LG.out; omega
      have FB2 : Hid (∀ k, (Value.slice ao' x.m.outs.length co').ownBlock = some k → k ≠ g) := fun k hk => by have h1 := FA2.out k hk; have h2 := LG.out; have h3 := O1.out; have h4 : V1.heap.size ≤ V2.heap.size := VS.out; omega
      have c1 := x.ins0 HR3.out
      have f1 := frozen_of_row V3 g 1 _ _ HG3.out
      refine wpAnyH_ready (rs := [12]) (by kernel_rfl) (by simp) (AllReadyH.cons rfl (fun K1 hK1 => ?_) AllReadyH.nil)
      go_simp
      have FR1 := hide (Rfr.setCell g V3 1 (.slice ai' x.m.ins.length ci'))
      have c2 : (V3.setCell ⟨g, 1, none⟩ (.slice ai' x.m.ins.length ci')).cell? ⟨g, 2, none⟩ = some (.slice x.ao x.m.outs.length x.co) := (cell_set_ne _ _ _ _ _ (by omega)).trans (x.outs0 HR3.out)
      have f2 := frozen_of_row (V3.setCell ⟨g, 1, none⟩ (.slice ai' x.m.ins.length ci')) g 2 _ _ (heap_setCell_same V3 g 1 _ _ _ HG3.out)
      refine hK1.out _ _ ⟨(below_next BW.out DV3.out).trans (FR1.out.to_below GW.out (below_next BW.out DV3.out).size), (FR1.out.block _ (lt_heap (SS.out _ DV3.out).2) (Ne.symm NG.out)).trans (SS.out _ DV3.out).2⟩ (fun hH => ?_)
      clear hK1 c1 f1
      refine wpAnyH_take (i := 13) (v := (.pointer (some ⟨g, 0, none⟩))) rfl (by kernel_rfl) (by kernel_rfl) (by kernel_rfl) (fun _ _ _ h => h) (.inl ⟨by rfl, fun W _ => by go_simp⟩) hH ?_
      change wpAnyH _ _ _ _ _ _ _ (Act.put _ (some 27) _) _
      simp only [Act.put, List.setIfInBounds_toArray, List.set_cons_zero, List.set_cons_succ]
      refine wpAnyH_take (i := 14) (v := (.pointer (some ⟨g, 2, none⟩))) rfl (by kernel_rfl) (by kernel_rfl) (by kernel_rfl) (fun _ _ _ h => h) (.inl ⟨by rfl, fun W _ => by go_simp⟩) hH ?_
      change wpAnyH _ _ _ _ _ _ _ (Act.put _ (some 28) _) _
      simp only [Act.put, List.setIfInBounds_toArray, List.set_cons_zero, List.set_cons_succ]
      have FR2 := hide (FR1.out.trans (Rfr.setCell g (V3.setCell ⟨g, 1, none⟩ (.slice ai' x.m.ins.length ci')) 2 (.slice ao' x.m.outs.length co')))
      have RY := hide (Tq.set2 x ⟨x.m, ai', ci', ao', co'⟩ rfl HG3.out HR3.out)
      have BY := hide ((below_next BW.out DV3.out).trans (FR2.out.to_below GW.out (below_next BW.out DV3.out).size))
      refine wpAnyH_ready (rs := [15]) (by kernel_rfl) (by simp) (AllReadyH.cons rfl (fun K1 hK1 => ?_) AllReadyH.nil)
      go_simp
      refine hK1.out _ _ ⟨BY.out, (FR2.out.block _ (lt_heap (SS.out _ DV3.out).2) (Ne.symm NG.out)).trans (SS.out _ DV3.out).2⟩ (fun hH => ?_)
      clear hK1 c2 f2
      have GB1 : Hid (∀ k, (Value.slice ai' x.m.ins.length ci').ownBlock = some k → w.heap.size ≤ k) := fun k hk => by have h1 := FA1.out k hk; have h2 := (below_next BW.out DV1.out).size; omega
      have GB2 : Hid (∀ k, (Value.slice ao' x.m.outs.length co').ownBlock = some k → w.heap.size ≤ k) := fun k hk => by have h1 := FA2.out k hk; have h2 := (below_next BW.out DV2.out).size; omega
      have HGY := hide (heap_setCell_same _ g 2 _ _ (.slice ao' x.m.outs.length co') (heap_setCell_same V3 g 1 _ _ (.slice ai' x.m.ins.length ci') HG3.out))
      have LL : Hid (∀ W' : World, (∀ g', w.heap.size ≤ g' → g' < ((V3.setCell ⟨g, 1, none⟩ (.slice ai' x.m.ins.length ci')).setCell ⟨g, 2, none⟩ (.slice ao' x.m.outs.length co')).heap.size → W'.heap[g']? = ((V3.setCell ⟨g, 1, none⟩ (.slice ai' x.m.ins.length ci')).setCell ⟨g, 2, none⟩ (.slice ao' x.m.outs.length co')).heap[g']?) → LQ W' (.slice (some ⟨g, 0, none⟩) 1 cap) [⟨x.m, ai', ci', ao', co'⟩]) := fun W' ag => ⟨⟨_, cap, rfl, hcap, fun i hi => by
          have h0 : i = 0 := by simpa using hi
          subst h0
          refine ⟨g, 0, rfl, lt_heap ((ag g GW.out (lt_heap HGY.out)).trans HGY.out), ?_⟩
          rw [Nat.zero_mul]
          exact range_block RY.out (ag g GW.out (lt_heap HGY.out))⟩, fun y hy => by
          rw [List.mem_singleton] at hy
          subst hy
          exact ⟨⟨(O3.out.of_block fun k hk => (ag k (GB1.out k hk) (Nat.lt_of_lt_of_le (O3.out.lt k hk) FR2.out.size)).trans (FR2.out.block k (O3.out.lt k hk) (FB1.out k hk))).read, (O2.out.of_block fun k hk => (ag k (GB2.out k hk) (Nat.lt_of_lt_of_le (O2.out.lt k hk) FR2.out.size)).trans (FR2.out.block k (O2.out.lt k hk) (FB2.out k hk))).read⟩, XF.out⟩⟩
      generalize (V3.setCell ⟨g, 1, none⟩ (.slice ai' x.m.ins.length ci')).setCell ⟨g, 2, none⟩ (.slice ao' x.m.outs.length co') = V5 at *
      refine wpAnyH_done (by kernel_rfl) ?_ _
      clear hH
      go_wp2
      exact ⟨.inr ⟨rfl, _, LL.out, rfl, BY.out⟩, by simp [intOf]⟩
    · go_wp2
      go_ret
      obtain ⟨y, h1, h2, h3⟩ := J.out
      exact ⟨_, _, y, rfl, h1, h2, h3⟩
end
end Go.Proofs.YtofddbjnncgmlabGreatDoor
namespace Go.Proofs.YtofddbjnncgmlabGreatDoor
open Go.RowKit
open Go.Deep
set_option linter.unusedVariables false
theorem bld_Hd (p r : List UInt8) (hp : p.length = 32) (hr : r.length = 32) (t b : UInt32) (W : World) : (Instr.build 27 #[(0, .int .u32 1), (1, .agg (hc p)), (2, .agg (hc r)), (3, .int .u32 (t.toNat : Int)), (4, .int .u32 (b.toNat : Int))]).run Tryz.prog W = .ok (.agg (⟨1, p, r, t, b, 0, hp, hr⟩ : Hd).cells.toArray) W := by
  obtain ⟨_, _, _, _, _, _, _, _, _, _, _, _, _, _, _, _, _, _, _, _, _, _, _, _, _, _, _, _, _, _, _, _, rfl⟩ := id32' p hp
  obtain ⟨_, _, _, _, _, _, _, _, _, _, _, _, _, _, _, _, _, _, _, _, _, _, _, _, _, _, _, _, _, _, _, _, rfl⟩ := id32' r hr
  kernel_rfl
theorem bld_Bk (h : Hd) (a : Option Addr) (n c : Nat) (W : World) : (Instr.build 30 #[(0, .agg h.cells.toArray), (1, .slice a n c)]).run Tryz.prog W = .ok (.agg (bkA h (.slice a n c))) W := by
  obtain ⟨v, p, r, t, b, o, hp, hr⟩ := h
  obtain ⟨_, _, _, _, _, _, _, _, _, _, _, _, _, _, _, _, _, _, _, _, _, _, _, _, _, _, _, _, _, _, _, _, rfl⟩ := id32' p hp
  obtain ⟨_, _, _, _, _, _, _, _, _, _, _, _, _, _, _, _, _, _, _, _, _, _, _, _, _, _, _, _, _, _, _, _, rfl⟩ := id32' r hr
  kernel_rfl
section
set_option maxRecDepth 10000
set_option maxHeartbeats 4000000
theorem build_yes (p : List UInt8) (hp : p.length = 32) (t b : UInt32) (v : Value) (x : Tq) (w : World) (hL : LQ w v [x]) (ht : x.m.toldE = 0) (h : Hd) (hh : h = ⟨1, p, rtL (idsL [x]), t, b, 0, hp, rtL_len (idsL_32 [x])⟩) (hz : (bkB h [x]).length ≤ 8192) (k : Nat) (hk : k < 4294967296) (hno : ∀ j, j < k → (h.at j).meets = false) (hyes : (h.at k).meets = true) (hK : Kg w) :
    Calls Tryz.prog 63 #[.agg (hc p), .int .u32 (t.toNat : Int), .int .u32 (b.toNat : Int), v] w fun e w' => ∃ ao cap y, e = .returned (.tuple #[.agg (bkA (h.at k) (.slice ao 1 cap)), .int .i64 0]) ∧ (∀ W' : World, (∀ g, w.heap.size ≤ g → g < w'.heap.size → W'.heap[g]? = w'.heap[g]?) → LQ W' (.slice ao 1 cap) [y]) ∧ y.m = x.m ∧ Below w.heap.size w w' := by
  obtain ⟨av, cv, rfl⟩ := hL.l.form
  rw [show ([x] : List Tq).length = 1 from rfl] at hL
  have s1 : (w.alloc (.cells (hc p) 25)).heap.size = w.heap.size + 1 := by simp
  have r1 := (Below.heap_alloc _ (.cells (bkA zHd (.slice none 0 0)) 30) _ (lt_heap (heap_alloc_last w (.cells (hc p) 25)))).trans (heap_alloc_last w (.cells (hc p) 25))
  have r2 := heap_alloc_last (w.alloc (.cells (hc p) 25)) (.cells (bkA zHd (.slice none 0 0)) 30)
  have b1 := ((Below.refl w.heap.size w).alloc (Nat.le_refl _) (.cells (hc p) 25)).alloc (by rw [s1]; omega) (.cells (bkA zHd (.slice none 0 0)) 30)
  rw [s1] at r2
  have B1 := hide b1
  have R1 := hide r1
  have R2 := hide r2
  have KS := hide (hK.next b1)
  have HL := hide (hL.below b1)
  have HR := hide (fun W l q => broot_any (.slice av 1 cv) [x] W l (by simp) q)
  have HE : Hid (∀ W, LQ W (.slice av 1 cv) [x] → Calls Tryz.prog 101 #[.agg (bkA h (.slice av 1 cv))] W fun e w' => e = .returned (.tuple #[.string (txt (bkB h [x])), .int .i64 0]) ∧ Below W.heap.size W w') := fun W l => benc_yes h (.slice av 1 cv) [x] W l (fun y hy => by rw [List.mem_singleton] at hy; subst hy; exact ht) hz (by simp)
  have HM := hide (fun W q => mine_yes h (by rw [hh]) k hk hno hyes W q)
  have HC := hide (fun W l => cloneTxs_one (.slice av 1 cv) x W l)
  have BH : Hid (∀ W, (Instr.build 27 #[(0, .int .u32 1), (1, .agg (hc p)), (2, .agg (hc (rtL (idsL [x])))), (3, .int .u32 (t.toNat : Int)), (4, .int .u32 (b.toNat : Int))]).run Tryz.prog W = .ok (.agg h.cells.toArray) W) := fun W => by
    rw [hh]
    exact bld_Hd p _ hp (rtL_len (idsL_32 [x])) t b W
  have BB := hide (fun W => bld_Bk h av 1 cv W)
  have BC : Hid (∀ W a c, (Instr.build 30 #[(0, .agg (h.at k).cells.toArray), (1, .slice a 1 c)]).run Tryz.prog W = .ok (.agg (bkA (h.at k) (.slice a 1 c))) W) := fun W a c => bld_Bk (h.at k) a 1 c W
  have PL := hide hp
  have RL := hide (rtL_len (idsL_32 [x]))
  have HZ := hide h.size
  have HA := hide h.all
  have KZ := hide (h.at k).size
  have KA' := hide (h.at k).all
  clear b1 r1 r2 hK hL ht hz hno hyes hh hp
  generalize rtL (idsL [x]) = RT at *
  generalize muL (idsL [x]) = MU at *
  generalize txt (bkB h [x]) = EN at *
  generalize hBH : bkA h (.slice av 1 cv) = BHA at *
  clear hBH
  generalize hHC : h.cells.toArray = CH at *
  clear hHC
  generalize hKC : (h.at k).cells.toArray = CK at *
  have HKC := hide hKC
  clear hKC
  go_enter Tryz.func63, Tryz.ntmps63
  go_upto_region 1 with ((with_reducible refine at_list ?_); first | refine wpList_boxA rfl _ rfl (hc p) rfl ?_ | refine wpList_allocA ABk rfl rfl ?_)
  try rw [s1]
  clear s1
  generalize (w.alloc (.cells (hc p) 25)).alloc (.cells (bkA zHd (.slice none 0 0)) 30) = W0 at *
  go_upto_region 2 with (first | (go_at_call 29; refine (HR.out _ HL.out KS.out).mono ?_; rintro r W1 ⟨rfl, be⟩; have D1 := hide be; clear be) | ((with_reducible refine at_list ?_); first | refine wpList_allocA A25 rfl rfl ?_ | refine wpList_store_newA A25 rfl _ _ rfl _ rfl (hc RT) (by rw [hc_size, RL.out]) (hc_one _) rfl rfl ?_))
  have D2 := hide (below_next D1.out ((Below.refl W1.heap.size W1).alloc (Nat.le_refl _) (.cells (hc RT) 25)))
  have R10 := hide (heap_alloc_last W1 (.cells (hc RT) 25))
  clear D1 HR
  generalize W1.alloc (.cells (hc RT) 25) = W2 at *
  generalize W1.heap.size = g10 at *
  have R1b := hide ((D2.out.block _ (lt_heap R1.out)).trans R1.out)
  have PZ : Hid ((hc p).size = 32 ∧ (hc RT).size = 32) := ⟨by rw [hc_size, PL.out], by rw [hc_size, RL.out]⟩
  go_upto_region 3 with ((with_reducible refine at_list ?_); first | refine wpList_loadS A25 _ rfl w.heap.size rfl (hc p) PZ.out.1 25 R1b.out (by rfl) ?_ | refine wpList_loadS A25 _ rfl g10 rfl (hc RT) PZ.out.2 25 R10.out (by rfl) ?_ | refine wpList_bldX rfl _ rfl #[(0, .int .u32 1), (1, .agg (hc p)), (2, .agg (hc RT)), (3, .int .u32 (t.toNat : Int)), (4, .int .u32 (b.toNat : Int))] CH (by simp only [List.map_toArray, List.map_cons, List.map_nil]; rfl) BH.out ?_ | refine wpList_allocA AHd rfl rfl ?_ | refine wpList_store_newA AHd rfl _ _ rfl _ rfl CH HZ.out HA.out rfl rfl ?_)
  have D3 := hide (below_next D2.out ((Below.refl W2.heap.size W2).alloc (Nat.le_refl _) (.cells CH 27)))
  have R12 := hide (heap_alloc_last W2 (.cells CH 27))
  clear R1b R10 D2 BH
  generalize W2.alloc (.cells CH 27) = W3 at *
  generalize W2.heap.size = g12 at *
  go_upto_region 4 with (first | (go_at_call 101; refine (HE.out _ (HL.out.below D3.out)).mono ?_; rintro r W4 ⟨rfl, be⟩; have D4 := hide (below_next D3.out be); have R12b := hide ((be.block _ (lt_heap R12.out)).trans R12.out); clear be) | ((with_reducible refine at_list ?_); first | refine wpList_loadS AHd _ rfl g12 rfl CH HZ.out 27 R12.out (by rfl) ?_ | refine wpList_bldX rfl _ rfl #[(0, .agg CH), (1, .slice av 1 cv)] BHA (by simp only [List.map_toArray, List.map_cons, List.map_nil]; rfl) BB.out ?_))
  clear D3 R12 HE BB
  go_upto_region 6 with fail
  go_upto_region 7 with (first | (go_at_call 102; refine (HM.out _ (KS.out.next D4.out)).mono ?_; rintro r W5 ⟨rfl, be⟩; have D5 := hide (below_next D4.out be); clear be) | ((with_reducible refine at_list ?_); first | refine wpList_loadS AHd _ rfl g12 rfl CH HZ.out 27 R12b.out (by rfl) ?_ | refine wpList_allocA AHd rfl rfl ?_ | refine wpList_store_newA AHd rfl _ _ rfl _ rfl CK KZ.out KA'.out rfl rfl ?_))
  have D6 := hide (below_next D5.out ((Below.refl W5.heap.size W5).alloc (Nat.le_refl _) (.cells CK 27)))
  have R15 := hide (heap_alloc_last W5 (.cells CK 27))
  have NG : Hid (w.heap.size + 1 ≠ W5.heap.size) := by
    have h1 := lt_heap R2.out
    have h2 := D5.out.size
    show w.heap.size + 1 ≠ W5.heap.size
    omega
  clear D4 D5 R12b HM
  generalize W5.alloc (.cells CK 27) = W6 at *
  generalize W5.heap.size = g15 at *
  go_upto_region 9 with fail
  have BW := hide (below_next B1.out D6.out)
  have RZ := hide ((D6.out.block _ (lt_heap R2.out)).trans R2.out)
  have HL6 := hide (HL.out.below D6.out)
  have SS : Hid (∀ W, Below W6.heap.size W6 W → Below w.heap.size w W ∧ W.heap[g15]? = some (.cells CK 27 (0, 0))) := fun W bw => ⟨below_next BW.out bw, (bw.block _ (lt_heap R15.out)).trans R15.out⟩
  have DV1 := hide ((Below.refl W6.heap.size W6).drew)
  refine wp_region_held_drew (S := fun W => Below w.heap.size w W ∧ W.heap[g15]? = some (.cells CK 27 (0, 0))) (by kernel_rfl) (SS.out _ DV1.out) (fun hH => ?_)
  generalize hWd : W6.drew = V1 at *
  clear hWd
  refine wpAnyH_take (i := 0) (v := (.agg CK)) rfl (by kernel_rfl) (by kernel_rfl) (by kernel_rfl) (fun _ _ _ h => h) (yl_load (by rfl) _ (by rfl) _ CK (by rfl) (fun W hS => ld_row AHd KZ.out hS.2)) hH ?_
  change wpAnyH _ _ _ _ _ _ _ (Act.put _ (some 46) _) _
  simp only [Act.put, List.setIfInBounds_toArray, List.set_cons_zero, List.set_cons_succ]
  refine wpAnyH_take (i := 1) (v := (.slice av 1 cv)) rfl (by kernel_rfl) (by kernel_rfl) (by kernel_rfl) (fun _ _ _ h => h) (yl_move (by rfl) _ (by rfl) _ (by rfl)) hH ?_
  change wpAnyH _ _ _ _ _ _ _ (Act.put _ (some 47) _) _
  simp only [Act.put, List.setIfInBounds_toArray, List.set_cons_zero, List.set_cons_succ]
  refine wpAnyH_ready (rs := [2]) (by kernel_rfl) (by simp) (AllReadyH.cons rfl (fun K1 hK1 => ?_) AllReadyH.nil)
  go_simp
  refine (HC.out V1 (HL6.out.below DV1.out)).mono ?_
  rintro r V2 ⟨ao, cap, y, rfl, lq, hm, be⟩
  have DV2 := hide (below_next DV1.out be)
  have LY := hide lq
  have YM := hide hm
  have R3 := hide ((DV2.out.block _ (lt_heap RZ.out)).trans RZ.out)
  refine hK1.out _ _ (SS.out _ DV2.out) (fun hH => ?_)
  clear hK1 be lq hm
  have BZ := hide (bkA_size (h.at k) (.slice ao 1 cap))
  have BA := hide (bkA_all (h.at k) ao 1 cap)
  have BC2 := hide (fun W => BC.out W ao cap)
  generalize hBK : bkA (h.at k) (.slice ao 1 cap) = BK at *
  have HBK := hide hBK
  clear hBK
  refine wpAnyH_take (i := 3) (v := (.agg BK)) rfl (by kernel_rfl) (by kernel_rfl) (by kernel_rfl) (fun _ _ _ h => h) (yl_build (by rfl) _ (by rfl) #[(0, .agg CK), (1, .slice ao 1 cap)] _ (by simp only [List.map_toArray, List.map_cons, List.map_nil]; rfl) BC2.out) hH ?_
  change wpAnyH _ _ _ _ _ _ _ (Act.put _ (some 49) _) _
  simp only [Act.put, List.setIfInBounds_toArray, List.set_cons_zero, List.set_cons_succ]
  refine wpAnyH_ready (rs := [4]) (by kernel_rfl) (by simp) (AllReadyH.cons rfl (fun K1 hK1 => ?_) AllReadyH.nil)
  refine stepStoreA ABk (by rfl) _ _ (by rfl) (w.heap.size + 1) BK BZ.out BA.out (by rfl) (by rfl) (bkA zHd (.slice none 0 0)) (bkA_size _ _) 30 R3.out ?_
  refine hK1.out _ _ ⟨below_setRow (below_next BW.out DV2.out) (by omega) _, (setRow_other _ _ _ _ (Ne.symm NG.out)).trans ((DV2.out.block _ (lt_heap R15.out)).trans R15.out)⟩ (fun hH => ?_)
  clear hK1
  change wpAnyH _ _ _ _ _ _ _ (Act.put _ none _) _
  simp only [Act.put]
  refine wpAnyH_take (i := 5) (v := (.int .i64 0)) rfl (by kernel_rfl) (by kernel_rfl) (by kernel_rfl) (fun _ _ _ h => h) (.inl ⟨by rfl, fun W _ => by go_simp⟩) hH ?_
  change wpAnyH _ _ _ _ _ _ _ (Act.put _ (some 9) _) _
  simp only [Act.put, List.setIfInBounds_toArray, List.set_cons_zero, List.set_cons_succ]
  refine wpAnyH_done (by kernel_rfl) ?_ _
  clear hH
  go_wp2
  have AG : ∀ g', W6.heap.size ≤ g' → (V2.setRow (w.heap.size + 1) BK).heap[g']? = V2.heap[g']? := fun g' hg => setRow_other _ _ _ _ (by have := lt_heap RZ.out; omega)
  exact bodyPost_ret (v := .tuple #[.agg BK, .int .i64 0]) (resA2K ABk Tryz.results63 _ _ (w.heap.size + 1) 30 _ BZ.out rfl (setRow_heap _ _ _ _ _ _ R3.out) _ rfl) rfl ⟨ao, cap, y, by rw [HBK.out], fun W' ag => LY.out W' (fun g hg hl => (ag g (Nat.le_trans (below_next BW.out DV1.out).size hg) (by simpa using hl)).trans (AG g (Nat.le_trans DV1.out.size hg))), YM.out, below_setRow (below_next BW.out DV2.out) (by omega) _⟩
end
end Go.Proofs.YtofddbjnncgmlabGreatDoor
namespace Go.Proofs.YtofddbjnncgmlabGreatDoor
open Go.RowKit
open Go.Deep
set_option linter.unusedVariables false
def gX : ByteArray := ⟨#[98, 101, 100, 114, 111, 99, 107]⟩
def gO : Tu := ⟨5000, ⟨#[]⟩⟩
/-- The first block's transaction and header. -/
def gT : Tm := cbT 0 gX [gO]
def gH : Hd := ⟨1, zeros, gT.idT, 1600000000, 545259519, 0, zeros_len, gT.idT_len⟩
theorem gT_told : gT.toldE = 0 := by decide +kernel
theorem gT_len : gT.bytes.length = 71 := by decide +kernel
theorem gT_fit : gT.fit := ⟨by decide, by decide⟩
theorem gH_no : (gH.at 0).meets = false := by decide +kernel
theorem gH_yes : (gH.at 1).meets = true := by decide +kernel
theorem rtL_oneB (i : List UInt8) : rtL [i] = i := rfl
theorem muL_oneB (i : List UInt8) : muL [i] = false := rfl
theorem LX.of_row1 {α : Type} (E : Ek α) {W : World} {g : Nat} {t : TypeId} {x : α} (h : W.heap[g]? = some (.cells (E.enc x).toArray t (0, 0))) : LX E W (.slice (some ⟨g, 0, none⟩) 1 1) [x] :=
  ⟨_, 1, rfl, Nat.le_refl _, fun i hi => by
    have h0 : i = 0 := by simpa using hi
    subst h0
    refine ⟨g, 0, rfl, lt_heap h, ?_⟩
    rw [Nat.zero_mul]
    exact rowAt _ h⟩
theorem bld_gO (W : World) : (Instr.build 70 #[(0, .int .u64 5000)]).run Tryz.prog W = .ok (.agg gO.cells.toArray) W := by kernel_rfl
section
set_option maxRecDepth 10000
set_option maxHeartbeats 4000000
theorem gbuild (x : Tq) (hm : x.m = gT) (v : Value) (w : World) (hL : LQ w v [x]) (hK : Kg w) : Calls Tryz.prog 63 #[.agg (hc zeros), .int .u32 1600000000, .int .u32 545259519, v] w fun e w' => ∃ ao cap y, e = .returned (.tuple #[.agg (bkA (gH.at 1) (.slice ao 1 cap)), .int .i64 0]) ∧ (∀ W' : World, (∀ g, w.heap.size ≤ g → g < w'.heap.size → W'.heap[g]? = w'.heap[g]?) → LQ W' (.slice ao 1 cap) [y]) ∧ y.m = gT ∧ Below w.heap.size w w' := by
  have e1 : idsL [x] = [gT.idT] := by show [x.m.idT] = _; rw [hm]
  have e2 : rtL (idsL [x]) = gT.idT := by rw [e1, rtL_oneB]
  have e3 : txsB [x] = gT.bytes := by show x.m.bytes ++ [] = _; rw [hm, List.append_nil]
  have e4 : bkB gH [x] = gH.bytes ++ countL 1 ++ gT.bytes := by show gH.bytes ++ countL 1 ++ txsB [x] = _; rw [e3]
  have q := build_yes zeros zeros_len 1600000000 545259519 v x w hL (by rw [hm]; exact gT_told) gH (by unfold gH; congr 1; exact e2.symm) (by rw [e4, List.length_append, List.length_append, gH.bytes_len, gT_len]; decide) 1 (by omega) (fun j hj => by
    obtain rfl : j = 0 := by omega
    exact gH_no) gH_yes hK
  rw [hm] at q
  exact q
end
end Go.Proofs.YtofddbjnncgmlabGreatDoor
