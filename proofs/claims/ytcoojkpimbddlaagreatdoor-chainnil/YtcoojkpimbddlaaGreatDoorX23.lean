/- block.cloneTxs of one transaction: its contract. Blocks in memory; the contract of block.Encode where nothing is wrong. block.Build of one transaction: its contract. The first block: block.Genesis. -/
import Derived.Test.YtcoojkpimbddlaaGreatDoorP0
import Derived.Test.YtcoojkpimbddlaaGreatDoorX22
import Derived.Test.YtcoojkpimbddlaaGreatDoorX21
import Derived.Test.YtcoojkpimbddlaaGreatDoorX18
namespace Go.Proofs.YtcoojkpimbddlaaGreatDoor
open Go.RowKit
open Go.Deep
set_option linter.unusedVariables false
theorem OX.row1 {W : World} {v : Value} {x : Tq} (h : OX KT W v [x]) : ∃ g cap cur, v = .slice (some ⟨g, 0, none⟩) 1 cap ∧ 1 ≤ cap ∧ W.heap[g]? = some (.cells cur 152 (0, 0)) ∧ W.rangeAt g 0 x.cells := by
  have hr := h.read
  obtain ⟨h2, h3⟩ := h
  rcases h3 with ⟨rfl, h0⟩ | ⟨g, cap, cur, rfl, hb, hg, hn, hm, hsz, ht⟩
  · cases h0
  · refine ⟨g, cap, cur, rfl, hn, hg, ?_⟩
    have := LX.range hr 0 (by simp)
    rw [Nat.zero_mul] at this
    exact this
theorem Tq.ins0 {W : World} {g : Nat} (x : Tq) (r : W.rangeAt g 0 x.cells) : W.cell? ⟨g, 1, none⟩ = some (.slice x.ai x.m.ins.length x.ci) := by
  have := r 1 _ rfl
  exact this
theorem Tq.outs0 {W : World} {g : Nat} (x : Tq) (r : W.rangeAt g 0 x.cells) : W.cell? ⟨g, 2, none⟩ = some (.slice x.ao x.m.outs.length x.co) := by
  have := r 2 _ rfl
  exact this
theorem Tq.set2 {W : World} {g : Nat} {cur : Array Value} {t : TypeId} (x y : Tq) (hm : y.m = x.m) (hg : W.heap[g]? = some (.cells cur t (0, 0))) (hr : W.rangeAt g 0 x.cells) : ((W.setCell ⟨g, 1, none⟩ (.slice y.ai y.m.ins.length y.ci)).setCell ⟨g, 2, none⟩ (.slice y.ao y.m.outs.length y.co)).rangeAt g 0 y.cells := by
  have h2 := heap_setCell_same _ g 2 _ _ (.slice y.ao y.m.outs.length y.co) (heap_setCell_same W g 1 _ _ (.slice y.ai y.m.ins.length y.ci) hg)
  have c0 : cur[0]? = some (.int .u32 (x.m.ver.toNat : Int)) := by rw [← cell_of_row W g 0 _ _ _ hg]; exact hr 0 _ rfl
  have c3 : cur[3]? = some (.int .u32 (x.m.time.toNat : Int)) := by rw [← cell_of_row W g 3 _ _ _ hg]; exact hr 3 _ rfl
  have hs : 3 < cur.size := (Array.getElem?_eq_some_iff.1 c3).1
  intro j v hv
  rw [cell_of_row _ _ _ _ _ _ h2, Nat.zero_add]
  simp only [Array.getElem?_setIfInBounds, Array.size_setIfInBounds]
  match j, hv with
  | 0, hv =>
    rw [if_neg (by decide), if_neg (by decide), c0, ← hm]
    exact hv
  | 1, hv =>
    rw [if_neg (by decide), if_pos rfl, if_pos (by omega)]
    exact hv
  | 2, hv =>
    rw [if_pos rfl, if_pos (by omega)]
    exact hv
  | 3, hv =>
    rw [if_neg (by decide), if_neg (by decide), c3, ← hm]
    exact hv
  | j + 4, hv => simp [Tq.cells] at hv
section
set_option maxRecDepth 10000
set_option maxHeartbeats 4000000
theorem cloneTxs_one (v : Value) (x : Tq) (w : World) (hL : LQ w v [x]) : Calls Tryz.prog 176 #[v] w fun e w' => ∃ ao cap y, e = .returned (.slice ao 1 cap) ∧ (∀ W' : World, (∀ g, w.heap.size ≤ g → g < w'.heap.size → W'.heap[g]? = w'.heap[g]?) → LQ W' (.slice ao 1 cap) [y]) ∧ y.m = x.m ∧ Below w.heap.size w w' := by
  have HC := hide (cloneT_any v [x] w hL.l (by simp))
  obtain ⟨av, cv, rfl⟩ := hL.l.form
  have XC := hide (hL.t x (by simp))
  have XF := hide (hL.t x (by simp)).2
  clear hL
  have HA := hide (fun W l => cloneA_any (.slice x.ai x.m.ins.length x.ci) x.m.ins W l XF.out.i)
  have HO := hide (fun W l => cloneO_any (.slice x.ao x.m.outs.length x.co) x.m.outs W l XF.out.o)
  have e1 : (([x] : List Tq).length : Int) = 1 := rfl
  go_enter Tryz.func176, Tryz.ntmps176
  go_upto_region 2 with (go_at_call 168; refine HC.out.mono ?_; rintro r W1 ⟨v', rfl, ox, be, fa⟩; have OXX := hide ox; have D1 := hide be; have FA := hide fa; clear ox be fa)
  obtain ⟨g, cap, cur, rfl, hcap, hg, hr⟩ := OXX.out.row1
  have HG := hide hg
  have HR := hide hr
  have GW := hide (FA.out g rfl)
  clear HC OXX FA hg hr
  go_upto_region 3 with fail
  go_loopw [10] (fun i wr => (i = .int .i64 0 ∧ Hid (wr = W1)) ∨ (i = .int .i64 1 ∧ Hid (∃ y, (∀ W' : World, (∀ g, w.heap.size ≤ g → g < wr.heap.size → W'.heap[g]? = wr.heap[g]?) → LQ W' (.slice (some ⟨g, 0, none⟩) 1 cap) [y]) ∧ y.m = x.m ∧ Below w.heap.size w wr))) (fun i _ => (1 - intOf i).toNat)
  case atStart => exact .inl ⟨rfl, rfl⟩
  case round =>
    rcases hrel with ⟨rfl, hw⟩ | ⟨rfl, J⟩
    · have hw2 := hw.out
      subst hw2
      have XZ : Hid (x.arr.size = 4) := rfl
      have XA := hide (x.m.one x.ai x.ci x.ao x.co)
      have XT := hide (XC.out.below D1.out)
      go_upto_region 5 with ((with_reducible refine at_list ?_); first | refine wpLoadT _ rfl g 0 rfl x HR.out (by rfl) ?_ | refine wpList_allocA AT rfl rfl ?_ | refine wpList_store_newA AT rfl _ _ rfl _ rfl x.arr XZ.out XA.out rfl rfl ?_)
      have ba := (Below.refl wr.heap.size wr).alloc (Nat.le_refl _) (.cells x.arr 152)
      have BW := hide (below_next D1.out ba)
      have RX := hide (heap_alloc_last wr (.cells x.arr 152))
      have HG2 := hide ((ba.block _ (lt_heap HG.out)).trans HG.out)
      have HR2 : Hid ((wr.alloc (.cells x.arr 152)).rangeAt g 0 x.cells) := rangeX_below HR.out ba (lt_heap HG.out)
      have XT2 := hide (XT.out.below ba)
      have NG : Hid (g ≠ wr.heap.size) := Nat.ne_of_lt (lt_heap HG.out)
      clear ba HG HR XT
      generalize wr.alloc (.cells x.arr 152) = W4 at *
      generalize wr.heap.size = g5 at *
      have SS : Hid (∀ W, Below W4.heap.size W4 W → Below w.heap.size w W ∧ W.heap[g5]? = some (.cells x.arr 152 (0, 0))) := fun W bw => ⟨below_next BW.out bw, (bw.block _ (lt_heap RX.out)).trans RX.out⟩
      have DV1 := hide ((Below.refl W4.heap.size W4).drew)
      refine wp_region_held_drew (S := fun W => Below w.heap.size w W ∧ W.heap[g5]? = some (.cells x.arr 152 (0, 0))) (by kernel_rfl) (SS.out _ DV1.out) (fun hH => ?_)
      generalize hWd : W4.drew = V1 at *
      clear hWd
      refine wt (i := 0) (v := (.slice (some ⟨g, 0, none⟩) 1 cap)) rfl (yl_move (by rfl) _ (by rfl) _ (by rfl)) hH ?_
      change wpAnyH _ _ _ _ _ _ _ (Act.put _ (some 15) _) _
      simp only [Act.put, s0, s1, s2]
      refine wt (i := 1) (v := (.int .i64 0)) rfl (yl_move (by rfl) _ (by rfl) _ (by rfl)) hH ?_
      change wpAnyH _ _ _ _ _ _ _ (Act.put _ (some 16) _) _
      simp only [Act.put, s0, s1, s2]
      refine wt (i := 2) (v := (.slice (some ⟨g, 0, none⟩) 1 cap)) rfl (yl_move (by rfl) _ (by rfl) _ (by rfl)) hH ?_
      change wpAnyH _ _ _ _ _ _ _ (Act.put _ (some 17) _) _
      simp only [Act.put, s0, s1, s2]
      refine wt (i := 3) (v := (.int .i64 0)) rfl (yl_move (by rfl) _ (by rfl) _ (by rfl)) hH ?_
      change wpAnyH _ _ _ _ _ _ _ (Act.put _ (some 18) _) _
      simp only [Act.put, s0, s1, s2]
      refine wt (i := 4) (v := (.pointer (some ⟨g5, 1, none⟩))) rfl (.inl ⟨by rfl, fun W _ => by go_simp⟩) hH ?_
      change wpAnyH _ _ _ _ _ _ _ (Act.put _ (some 19) _) _
      simp only [Act.put, s0, s1, s2]
      refine wt (i := 5) (v := (.slice x.ai x.m.ins.length x.ci)) rfl (.inl ⟨by rfl, fun W hS => by have c4 := x.ins0 (rowAt x.cells hS.2); go_simp⟩) hH ?_
      change wpAnyH _ _ _ _ _ _ _ (Act.put _ (some 20) _) _
      simp only [Act.put, s0, s1, s2]
      refine wt (i := 7) (v := (.pointer (some ⟨g5, 2, none⟩))) rfl (.inl ⟨by rfl, fun W _ => by go_simp⟩) hH ?_
      change wpAnyH _ _ _ _ _ _ _ (Act.put _ (some 22) _) _
      simp only [Act.put, s0, s1, s2]
      refine wt (i := 8) (v := (.slice x.ao x.m.outs.length x.co)) rfl (.inl ⟨by rfl, fun W hS => by have c4 := x.outs0 (rowAt x.cells hS.2); go_simp⟩) hH ?_
      change wpAnyH _ _ _ _ _ _ _ (Act.put _ (some 23) _) _
      simp only [Act.put, s0, s1, s2]
      refine wpAnyH_ready (rs := [6]) (by kernel_rfl) (by simp) (AllReadyH.cons rfl (fun K1 hK1 => ?_) AllReadyH.nil)
      go_simp
      refine (HA.out V1 (XT2.out.below DV1.out).1.i).mono ?_
      rintro r V2 ⟨v1, rfl, ox1, be1, fa1⟩
      obtain ⟨ai', ci', rfl⟩ := ox1.form
      have DV2 := hide (below_next DV1.out be1)
      have FA1 := hide fa1
      have VS := hide be1.size
      have O1 := hide ox1
      refine hK1.out _ _ (SS.out _ DV2.out) (fun hH => ?_)
      clear hK1 be1 ox1 fa1
      refine wpAnyH_ready (rs := [9]) (by kernel_rfl) (by simp) (AllReadyH.cons rfl (fun K1 hK1 => ?_) AllReadyH.nil)
      go_simp
      refine (HO.out V2 (XT2.out.below DV2.out).1.o).mono ?_
      rintro r V3 ⟨v2, rfl, ox2, be2, fa2⟩
      obtain ⟨ao', co', rfl⟩ := ox2.form
      have DV3 := hide (below_next DV2.out be2)
      have FA2 := hide fa2
      have O2 := hide ox2
      have O3 := hide (O1.out.below be2)
      refine hK1.out _ _ (SS.out _ DV3.out) (fun hH => ?_)
      clear hK1 be2 ox2 fa2
      refine wt (i := 10) (v := (.pointer (some ⟨g, 0, none⟩))) rfl (.inl ⟨by rfl, fun W _ => by go_simp⟩) hH ?_
      change wpAnyH _ _ _ _ _ _ _ (Act.put _ (some 25) _) _
      simp only [Act.put, s0, s1, s2]
      refine wt (i := 11) (v := (.pointer (some ⟨g, 1, none⟩))) rfl (.inl ⟨by rfl, fun W _ => by go_simp⟩) hH ?_
      change wpAnyH _ _ _ _ _ _ _ (Act.put _ (some 26) _) _
      simp only [Act.put, s0, s1, s2]
      have bm := hide (And.intro (DV3.out.block _ (lt_heap HG2.out)) (rangeX_below HR2.out DV3.out (lt_heap HG2.out)))
      have HG3 := hide (bm.out.1.trans HG2.out)
      have HR3 := hide bm.out.2
      have LG := hide (Nat.lt_of_lt_of_le (lt_heap HG2.out) DV1.out.size)
      have FB1 : Hid (∀ k, (Value.slice ai' x.m.ins.length ci').ownBlock = some k → k ≠ g) := fun k hk => by have := FA1.out k hk; have := LG.out; omega
      have FB2 : Hid (∀ k, (Value.slice ao' x.m.outs.length co').ownBlock = some k → k ≠ g) := fun k hk => by have h1 := FA2.out k hk; have h2 := LG.out; have h3 := O1.out; have h4 : V1.heap.size ≤ V2.heap.size := VS.out; omega
      have c1 := x.ins0 HR3.out
      have f1 := frozen_of_row V3 g 1 _ _ HG3.out
      refine wpAnyH_ready (rs := [12]) (by kernel_rfl) (by simp) (AllReadyH.cons rfl (fun K1 hK1 => ?_) AllReadyH.nil)
      go_simp
      have FR1 := hide (Rfr.setCell g V3 1 (.slice ai' x.m.ins.length ci'))
      have c2 : (V3.setCell ⟨g, 1, none⟩ (.slice ai' x.m.ins.length ci')).cell? ⟨g, 2, none⟩ = some (.slice x.ao x.m.outs.length x.co) := (cell_set_ne _ _ _ _ _ (by omega)).trans (x.outs0 HR3.out)
      have f2 := frozen_of_row (V3.setCell ⟨g, 1, none⟩ (.slice ai' x.m.ins.length ci')) g 2 _ _ (heap_setCell_same V3 g 1 _ _ _ HG3.out)
      refine hK1.out _ _ ⟨(below_next BW.out DV3.out).trans (FR1.out.to_below GW.out (below_next BW.out DV3.out).size), (FR1.out.block _ (lt_heap (SS.out _ DV3.out).2) (Ne.symm NG.out)).trans (SS.out _ DV3.out).2⟩ (fun hH => ?_)
      clear hK1 c1 f1
      refine wt (i := 13) (v := (.pointer (some ⟨g, 0, none⟩))) rfl (.inl ⟨by rfl, fun W _ => by go_simp⟩) hH ?_
      change wpAnyH _ _ _ _ _ _ _ (Act.put _ (some 27) _) _
      simp only [Act.put, s0, s1, s2]
      refine wt (i := 14) (v := (.pointer (some ⟨g, 2, none⟩))) rfl (.inl ⟨by rfl, fun W _ => by go_simp⟩) hH ?_
      change wpAnyH _ _ _ _ _ _ _ (Act.put _ (some 28) _) _
      simp only [Act.put, s0, s1, s2]
      have FR2 := hide (FR1.out.trans (Rfr.setCell g (V3.setCell ⟨g, 1, none⟩ (.slice ai' x.m.ins.length ci')) 2 (.slice ao' x.m.outs.length co')))
      have RY := hide (Tq.set2 x ⟨x.m, ai', ci', ao', co'⟩ rfl HG3.out HR3.out)
      have BY := hide ((below_next BW.out DV3.out).trans (FR2.out.to_below GW.out (below_next BW.out DV3.out).size))
      refine wpAnyH_ready (rs := [15]) (by kernel_rfl) (by simp) (AllReadyH.cons rfl (fun K1 hK1 => ?_) AllReadyH.nil)
      go_simp
      refine hK1.out _ _ ⟨BY.out, (FR2.out.block _ (lt_heap (SS.out _ DV3.out).2) (Ne.symm NG.out)).trans (SS.out _ DV3.out).2⟩ (fun hH => ?_)
      clear hK1 c2 f2
      have GB1 : Hid (∀ k, (Value.slice ai' x.m.ins.length ci').ownBlock = some k → w.heap.size ≤ k) := fun k hk => by have h1 := FA1.out k hk; have h2 := (below_next BW.out DV1.out).size; omega
      have GB2 : Hid (∀ k, (Value.slice ao' x.m.outs.length co').ownBlock = some k → w.heap.size ≤ k) := fun k hk => by have h1 := FA2.out k hk; have h2 := (below_next BW.out DV2.out).size; omega
      have HGY := hide (heap_setCell_same _ g 2 _ _ (.slice ao' x.m.outs.length co') (heap_setCell_same V3 g 1 _ _ (.slice ai' x.m.ins.length ci') HG3.out))
      have LL : Hid (∀ W' : World, (∀ g', w.heap.size ≤ g' → g' < ((V3.setCell ⟨g, 1, none⟩ (.slice ai' x.m.ins.length ci')).setCell ⟨g, 2, none⟩ (.slice ao' x.m.outs.length co')).heap.size → W'.heap[g']? = ((V3.setCell ⟨g, 1, none⟩ (.slice ai' x.m.ins.length ci')).setCell ⟨g, 2, none⟩ (.slice ao' x.m.outs.length co')).heap[g']?) → LQ W' (.slice (some ⟨g, 0, none⟩) 1 cap) [⟨x.m, ai', ci', ao', co'⟩]) := fun W' ag => ⟨⟨_, cap, rfl, hcap, fun i hi => by
          have h0 : i = 0 := by simpa using hi
          subst h0
          refine ⟨g, 0, rfl, lt_heap ((ag g GW.out (lt_heap HGY.out)).trans HGY.out), ?_⟩
          rw [Nat.zero_mul]
          exact range_block RY.out (ag g GW.out (lt_heap HGY.out))⟩, fun y hy => by
          rw [List.mem_singleton] at hy
          subst hy
          exact ⟨⟨(O3.out.of_block fun k hk => (ag k (GB1.out k hk) (Nat.lt_of_lt_of_le (O3.out.lt k hk) FR2.out.size)).trans (FR2.out.block k (O3.out.lt k hk) (FB1.out k hk))).read, (O2.out.of_block fun k hk => (ag k (GB2.out k hk) (Nat.lt_of_lt_of_le (O2.out.lt k hk) FR2.out.size)).trans (FR2.out.block k (O2.out.lt k hk) (FB2.out k hk))).read⟩, XF.out⟩⟩
      generalize (V3.setCell ⟨g, 1, none⟩ (.slice ai' x.m.ins.length ci')).setCell ⟨g, 2, none⟩ (.slice ao' x.m.outs.length co') = V5 at *
      refine wpAnyH_done (by kernel_rfl) ?_ _
      clear hH
      go_wp2
      exact ⟨.inr ⟨rfl, _, LL.out, rfl, BY.out⟩, by simp [intOf]⟩
    · go_wp2
      go_ret
      obtain ⟨y, h1, h2, h3⟩ := J.out
      exact ⟨_, _, y, rfl, h1, h2, h3⟩
end
def bkA (h : Hd) (v : Value) : Array Value := (h.cells ++ [v]).toArray
theorem bkA_size (h : Hd) (v : Value) : (bkA h v).size = 69 := by rw [bkA, List.size_toArray, List.length_append, h.len]; rfl
theorem bkA_all (h : Hd) (ao : Option Addr) (n c : Nat) : (bkA h (.slice ao n c)).all (·.oneCell') = true := by
  rw [Array.all_eq_true_iff_forall_mem]
  intro v hv
  simp only [bkA, List.mem_toArray, List.mem_append, List.mem_singleton] at hv
  rcases hv with hv | rfl
  · exact h.one v hv
  · rfl
theorem ABk : Arr 62 69 (bkA zHd (.slice none 0 0)) := ⟨.inr ⟨_, Tryz.underlying62⟩, by kernel_rfl, fun w => by kernel_rfl, fun w => by kernel_rfl, bkA_size _ _⟩
theorem bkA_head {W : World} {g : Nat} {h : Hd} {v : Value} {t : TypeId} (e : W.heap[g]? = some (.cells (bkA h v) t (0, 0))) : W.rangeAt g 0 h.cells := fun j u hu => by
  rw [cell_of_row _ _ _ _ _ _ e, bkA, List.getElem?_toArray, Nat.zero_add, List.getElem?_append_left (List.getElem?_eq_some_iff.1 hu).1]
  exact hu
theorem bkA_txs {W : World} {g : Nat} {h : Hd} {v : Value} {t : TypeId} (e : W.heap[g]? = some (.cells (bkA h v) t (0, 0))) : W.cell? ⟨g, 68, none⟩ = some v := by
  rw [cell_of_row _ _ _ _ _ _ e, bkA, List.getElem?_toArray, List.getElem?_append_right (by rw [h.len]; omega), h.len]
  rfl
def txsB (L : List Tq) : List UInt8 := (L.map (fun x => x.m.bytes)).flatten
theorem txsB_next (L : List Tq) (k : Nat) (hk : k < L.length) : txsB (L.take k) ++ L[k].m.bytes = txsB (L.take (k + 1)) := by
  rw [txsB, txsB, ← List.take_append_getElem hk, List.map_append, List.flatten_append]
  simp only [List.map_cons, List.map_nil, List.flatten_cons, List.flatten_nil, List.append_nil]
theorem txsB_le (L : List Tq) (k : Nat) : (txsB (L.take k)).length ≤ (txsB L).length := by
  have : txsB L = txsB (L.take k) ++ txsB (L.drop k) := by rw [txsB, txsB, txsB, ← List.flatten_append, ← List.map_append, List.take_append_drop]
  rw [this, List.length_append]
  omega
def bkB (h : Hd) (L : List Tq) : List UInt8 := h.bytes ++ countL L.length ++ txsB L
section
set_option maxRecDepth 10000
set_option maxHeartbeats 4000000
theorem benc_yes (h : Hd) (v : Value) (L : List Tq) (w : World) (hL : LQ w v L) (ht : ∀ x ∈ L, x.m.toldE = 0) (hz : (bkB h L).length ≤ 8192) (hn : L.length < 4398046511104) : Calls Tryz.prog 175 #[.agg (bkA h v)] w fun e w' => e = .returned (.tuple #[.string (txt (bkB h L)), .int .i64 0]) ∧ Below w.heap.size w w' := by
  obtain ⟨ao, cap, rfl⟩ := hL.l.form
  have b1 := (Below.refl w.heap.size w).alloc (Nat.le_refl _) (.cells (bkA h (.slice ao L.length cap)) 62)
  have R1 := hide (heap_alloc_last w (.cells (bkA h (.slice ao L.length cap)) 62))
  have B1 := hide b1
  have HL := hide (hL.below b1)
  have HT := hide ht
  have HZ := hide hz
  have HN := hide hn
  have RH : Hid (∀ W : World, W.heap[w.heap.size]? = some (.cells (bkA h (.slice ao L.length cap)) 62 (0, 0)) → W.rangeAt w.heap.size 0 h.cells ∧ W.cell? ⟨w.heap.size, 68, none⟩ = some (.slice ao L.length cap)) := fun W e => ⟨bkA_head e, bkA_txs e⟩
  have HH := hide (fun W => head_any h W)
  have BL := hide h.bytes_len
  have CL := hide (clong_le (L.length : Int))
  clear b1 hL ht hz hn
  generalize bkA h (.slice ao L.length cap) = C at *
  go_enter Tryz.func175, Tryz.ntmps175
  go_upto_region 1 with ((with_reducible refine at_list ?_); refine wpList_boxA rfl _ rfl C rfl ?_)
  generalize w.alloc (.cells C 62) = W0 at *
  go_upto_region 2 with (go_at_call 140; refine (newWriter_any _).mono ?_; rintro e W2 ⟨rfl, rfl⟩)
  have J0 := hide (Wb.new W0)
  generalize W0.alloc (.cells #[.slice none 0 0] 323) = W1 at *
  generalize hb : W0.heap.size = b at *
  have CC : Hid (∀ W l, Wb W0 W b l → W.rangeAt w.heap.size 0 h.cells ∧ W.cell? ⟨w.heap.size, 68, none⟩ = some (.slice ao L.length cap)) := fun W l j => RH.out W ((j.bel.block _ (by rw [hb]; have := lt_heap R1.out; omega)).trans R1.out)
  have HB : Hid (∀ s : ByteArray, s.size ≤ 10000 → ∀ l W, Wb W0 W b l → l.length ≤ 35184372088832 → Calls Tryz.prog 142 #[pb b, .string s] W fun e w' => e = .returned (.tuple #[]) ∧ Wb W0 w' b (l ++ s.data.toList)) := fun s hs l W j hl => (wBytes (pb b) l s (.inr (by omega)) W (by omega) j.st).mono fun e w' ⟨h1, h2, h3⟩ => ⟨h1, j.step h2 h3⟩
  have HK : Hid (∀ n : Nat, U64 n → ∀ l W, Wb W0 W b l → l.length ≤ 35184372088832 → Calls Tryz.prog 161 #[pb b, .int .u64 (n : Int)] W fun e w' => e = .returned (.tuple #[]) ∧ Wb W0 w' b (l ++ countL n)) := fun n hn l W j hl => (wCount (pb b) l n hn W hl j.st).mono fun e w' ⟨h1, h2, h3⟩ => ⟨h1, j.step h2 h3⟩
  have HW : Hid (∀ l W, Wb W0 W b l → Calls Tryz.prog 143 #[pb b] W fun e w' => e = .returned (.string (txt l)) ∧ w' = W) := fun l W j => wText b l W j.st
  have HLn : Hid (∀ l W, Wb W0 W b l → Calls Tryz.prog 233 #[pb b] W fun e w' => e = .returned (.int .i64 l.length) ∧ w' = W) := fun l W j => wLen b l W j.st
  have rh := hide (CC.out _ _ J0.out).1
  have TZ : Hid ((txt h.bytes).size ≤ 10000 ∧ (txt h.bytes).data.toList = h.bytes) := ⟨by rw [txt_sz, BL.out]; omega, rfl⟩
  go_upto_region 3 with (first | (go_at_call 108; refine (HH.out _).mono ?_; rintro e W2 ⟨rfl, be⟩; have J1 := hide (J0.out.next be); clear be) | (go_at_call 142; refine (HB.out _ TZ.out.1 _ _ J1.out (by simp)).mono ?_; rintro e W3 ⟨rfl, j2⟩; have J2 := hide j2; clear j2) | ((with_reducible refine at_list ?_); refine wpLoadHd _ rfl w.heap.size 0 rfl h rh.out (by rfl) ?_))
  rw [TZ.out.2, List.nil_append] at J2
  have c3 := (CC.out _ _ J2.out).2
  clear rh J0 J1 TZ HH
  have U1 := hide (show U64 L.length by have := HN.out; unfold U64; omega)
  have eU : IntKind.u64.wrap (L.length : Int) = (L.length : Int) := wrapu _ (by omega) (by have := HN.out; omega)
  go_upto_region 4 with (go_at_call 161; refine (HK.out _ U1.out _ _ J2.out (by rw [BL.out]; omega)).mono ?_; rintro e W4 ⟨rfl, j3⟩; have J3 := hide j3; clear j3)
  have c4 := (CC.out _ _ J3.out).2
  clear c3 J2 eU
  go_upto_region 5 with fail
  clear c4
  have ZL : Hid (∀ k, (h.bytes ++ countL L.length ++ txsB (L.take k)).length ≤ 8192) := fun k => by
    have h1 := HZ.out
    have h2 := txsB_le L k
    rw [bkB, List.length_append] at h1
    rw [List.length_append]
    omega
  go_loopw [24] (fun i wr => ∃ k : Nat, k ≤ L.length ∧ i = .int .i64 (k : Int) ∧ Hid (Wb W0 wr b (h.bytes ++ countL L.length ++ txsB (L.take k)))) (fun i _ => (L.length - intOf i).toNat)
  case atStart => exact ⟨0, Nat.zero_le _, rfl, by rw [List.take_zero, show txsB [] = [] from rfl, List.append_nil]; exact J3⟩
  case round =>
    clear J3
    obtain ⟨k, hk, rfl, J⟩ := hrel
    by_cases hlt : k < L.length
    · have h1 : (k : Int) < (L.length : Int) := by omega
      have h2 : (0 : Int) ≤ (k : Int) := by omega
      have hn := HN.out
      have e1 : IntKind.i64.wrap ((k : Int) + 1) = k + 1 := wrapI _ (by omega) (by omega)
      have KK := hide (And.intro (show k + 1 ≤ L.length by omega) (show ((L.length : Int) - ((k : Int) + 1)).toNat < ((L.length : Int) - (k : Int)).toNat by omega))
      obtain ⟨ga, oa, rfl⟩ := HL.out.l.base (by omega)
      have RG : Hid (wr.rangeAt ga (oa + k * 4) L[k].cells) := (HL.out.below J.out.bel).l.range k hlt
      have CN := hide (fun W (b : Below W0.heap.size W0 W) => (HL.out.at k hlt).below b)
      have SN := hide (txsB_next L k hlt)
      have T0 := HT.out L[k] (List.getElem_mem hlt)
      have ZK := hide (ZL.out k)
      have ZK2 := hide (ZL.out (k + 1))
      generalize L[k] = x at *
      clear hk hlt hn
      have HE : Hid (∀ W, x.can W → Calls Tryz.prog 155 #[.agg x.arr] W fun e w' => e = .returned (.tuple #[.string (txt x.m.bytes), .int .i64 0]) ∧ Below W.heap.size W w') := fun W c => by
        have := encode_any x.m x.ai x.ci x.ao x.co W c.1 c.2
        rw [Tm.encT, if_pos T0, T0] at this
        exact this
      have XB : Hid ((txt x.m.bytes).size ≤ 10000 ∧ (txt x.m.bytes).data.toList = x.m.bytes) := ⟨by
        have := ZK2.out
        rw [← SN.out, List.length_append, List.length_append, List.length_append] at this
        rw [txt_sz]
        omega, rfl⟩
      clear T0
      go_upto_region 7 with ((with_reducible refine at_list ?_); first | refine wpLoadT _ rfl ga (oa + k * 4) rfl x RG.out (by rfl) ?_ | refine wpList_allocA AT rfl rfl ?_ | refine wpList_store_newA AT rfl _ _ rfl _ rfl x.arr rfl (x.m.one _ _ _ _) rfl rfl ?_)
      have J1 := hide (J.out.next ((Below.refl wr.heap.size wr).alloc (Nat.le_refl _) (.cells x.arr 152)))
      have RX := hide (heap_alloc_last wr (.cells x.arr 152))
      have XZ : Hid (x.arr.size = 4) := rfl
      clear J RG
      generalize wr.alloc (.cells x.arr 152) = W5 at *
      generalize wr.heap.size = g6 at *
      generalize x.arr = CX at *
      generalize hT : txt x.m.bytes = T at *
      clear hT
      generalize x.m.bytes = TB at *
      go_wp2_with (first | (go_at_call 155; refine (HE.out _ (CN.out _ J1.out.bel)).mono ?_; rintro r W6 ⟨rfl, be⟩; have J2 := hide (J1.out.next be); clear be) | (go_at_call 142; refine (HB.out _ XB.out.1 _ _ J2.out (by have := ZK.out; omega)).mono ?_; rintro e W7 ⟨rfl, j3⟩; have J3 := hide j3; clear j3) | ((with_reducible refine at_list ?_); refine wpList_loadS AT _ rfl g6 rfl CX XZ.out 152 RX.out (by rfl) ?_))
      exact ⟨⟨k + 1, KK.out.1, by go_num, by rw [← SN.out, ← List.append_assoc, ← XB.out.2]; exact J3⟩, by simpa [intOf] using KK.out.2⟩
    · have h1 : ¬ (k : Int) < (L.length : Int) := by omega
      have JR := J.out
      rw [List.take_of_length_le (by omega)] at JR
      have J2 : Hid (Wb W0 wr b (bkB h L)) := JR
      have ZZ : ¬ ((bkB h L).length : Int) > 8192 := by have := HZ.out; omega
      clear hk hlt J JR
      generalize hBB : bkB h L = BB at *
      have HBB := hide hBB
      clear hBB
      go_wp2_with (first | (go_at_call 233; refine (HLn.out _ _ J2.out).mono ?_; rintro r W7 ⟨rfl, h9⟩; subst W7) | (go_at_call 143; refine (HW.out _ _ J2.out).mono ?_; rintro r W7 ⟨rfl, h9⟩; subst W7))
      go_ret2
      exact ⟨by rw [HBB.out]; rfl, below_next B1.out J2.out.bel⟩
end
theorem bld_Hd (p r : List UInt8) (hp : p.length = 32) (hr : r.length = 32) (t b : UInt32) (W : World) : (Instr.build 48 #[(0, .int .u32 1), (1, .agg (hc p)), (2, .agg (hc r)), (3, .int .u32 (t.toNat : Int)), (4, .int .u32 (b.toNat : Int))]).run Tryz.prog W = .ok (.agg (⟨1, p, r, t, b, 0, hp, hr⟩ : Hd).cells.toArray) W := by
  obtain ⟨_, _, _, _, _, _, _, _, _, _, _, _, _, _, _, _, _, _, _, _, _, _, _, _, _, _, _, _, _, _, _, _, rfl⟩ := id32' p hp
  obtain ⟨_, _, _, _, _, _, _, _, _, _, _, _, _, _, _, _, _, _, _, _, _, _, _, _, _, _, _, _, _, _, _, _, rfl⟩ := id32' r hr
  kernel_rfl
theorem bld_Bk (h : Hd) (a : Option Addr) (n c : Nat) (W : World) : (Instr.build 62 #[(0, .agg h.cells.toArray), (1, .slice a n c)]).run Tryz.prog W = .ok (.agg (bkA h (.slice a n c))) W := by
  obtain ⟨v, p, r, t, b, o, hp, hr⟩ := h
  obtain ⟨_, _, _, _, _, _, _, _, _, _, _, _, _, _, _, _, _, _, _, _, _, _, _, _, _, _, _, _, _, _, _, _, rfl⟩ := id32' p hp
  obtain ⟨_, _, _, _, _, _, _, _, _, _, _, _, _, _, _, _, _, _, _, _, _, _, _, _, _, _, _, _, _, _, _, _, rfl⟩ := id32' r hr
  kernel_rfl
section
set_option maxRecDepth 10000
set_option maxHeartbeats 4000000
theorem build_yes (p : List UInt8) (hp : p.length = 32) (t b : UInt32) (v : Value) (x : Tq) (w : World) (hL : LQ w v [x]) (ht : x.m.toldE = 0) (h : Hd) (hh : h = ⟨1, p, rtL (idsL [x]), t, b, 0, hp, rtL_len (idsL_32 [x])⟩) (hz : (bkB h [x]).length ≤ 8192) (k : Nat) (hk : k < 4294967296) (hno : ∀ j, j < k → (h.at j).meets = false) (hyes : (h.at k).meets = true) (hK : Kg w) :
    Calls Tryz.prog 107 #[.agg (hc p), .int .u32 (t.toNat : Int), .int .u32 (b.toNat : Int), v] w fun e w' => ∃ ao cap y, e = .returned (.tuple #[.agg (bkA (h.at k) (.slice ao 1 cap)), .int .i64 0]) ∧ (∀ W' : World, (∀ g, w.heap.size ≤ g → g < w'.heap.size → W'.heap[g]? = w'.heap[g]?) → LQ W' (.slice ao 1 cap) [y]) ∧ y.m = x.m ∧ Below w.heap.size w w' := by
  obtain ⟨av, cv, rfl⟩ := hL.l.form
  rw [show ([x] : List Tq).length = 1 from rfl] at hL
  have s1 : (w.alloc (.cells (hc p) 46)).heap.size = w.heap.size + 1 := by simp
  have r1 := (Below.heap_alloc _ (.cells (bkA zHd (.slice none 0 0)) 62) _ (lt_heap (heap_alloc_last w (.cells (hc p) 46)))).trans (heap_alloc_last w (.cells (hc p) 46))
  have r2 := heap_alloc_last (w.alloc (.cells (hc p) 46)) (.cells (bkA zHd (.slice none 0 0)) 62)
  have b1 := ((Below.refl w.heap.size w).alloc (Nat.le_refl _) (.cells (hc p) 46)).alloc (by rw [s1]; omega) (.cells (bkA zHd (.slice none 0 0)) 62)
  rw [s1] at r2
  have B1 := hide b1
  have R1 := hide r1
  have R2 := hide r2
  have KS := hide (hK.next b1)
  have HL := hide (hL.below b1)
  have HR := hide (fun W l q => broot_any (.slice av 1 cv) [x] W l (by simp) q)
  have HE : Hid (∀ W, LQ W (.slice av 1 cv) [x] → Calls Tryz.prog 175 #[.agg (bkA h (.slice av 1 cv))] W fun e w' => e = .returned (.tuple #[.string (txt (bkB h [x])), .int .i64 0]) ∧ Below W.heap.size W w') := fun W l => benc_yes h (.slice av 1 cv) [x] W l (fun y hy => by rw [List.mem_singleton] at hy; subst hy; exact ht) hz (by simp)
  have HM := hide (fun W q => mine_yes h (by rw [hh]) k hk hno hyes W q)
  have HC := hide (fun W l => cloneTxs_one (.slice av 1 cv) x W l)
  have BH : Hid (∀ W, (Instr.build 48 #[(0, .int .u32 1), (1, .agg (hc p)), (2, .agg (hc (rtL (idsL [x])))), (3, .int .u32 (t.toNat : Int)), (4, .int .u32 (b.toNat : Int))]).run Tryz.prog W = .ok (.agg h.cells.toArray) W) := fun W => by
    rw [hh]
    exact bld_Hd p _ hp (rtL_len (idsL_32 [x])) t b W
  have BB := hide (fun W => bld_Bk h av 1 cv W)
  have BC : Hid (∀ W a c, (Instr.build 62 #[(0, .agg (h.at k).cells.toArray), (1, .slice a 1 c)]).run Tryz.prog W = .ok (.agg (bkA (h.at k) (.slice a 1 c))) W) := fun W a c => bld_Bk (h.at k) a 1 c W
  have PL := hide hp
  have RL := hide (rtL_len (idsL_32 [x]))
  have HZ := hide h.size
  have HA := hide h.all
  have KZ := hide (h.at k).size
  have KA' := hide (h.at k).all
  clear b1 r1 r2 hK hL ht hz hno hyes hh hp
  generalize rtL (idsL [x]) = RT at *
  generalize muL (idsL [x]) = MU at *
  generalize txt (bkB h [x]) = EN at *
  generalize hBH : bkA h (.slice av 1 cv) = BHA at *
  clear hBH
  generalize hHC : h.cells.toArray = CH at *
  clear hHC
  generalize hKC : (h.at k).cells.toArray = CK at *
  have HKC := hide hKC
  clear hKC
  go_enter Tryz.func107, Tryz.ntmps107
  go_upto_region 1 with ((with_reducible refine at_list ?_); first | refine wpList_boxA rfl _ rfl (hc p) rfl ?_ | refine wpList_allocA ABk rfl rfl ?_)
  try rw [s1]
  clear s1
  generalize (w.alloc (.cells (hc p) 46)).alloc (.cells (bkA zHd (.slice none 0 0)) 62) = W0 at *
  go_upto_region 2 with (first | (go_at_call 75; refine (HR.out _ HL.out KS.out).mono ?_; rintro r W1 ⟨rfl, be⟩; have D1 := hide be; clear be) | ((with_reducible refine at_list ?_); first | refine wpList_allocA A25 rfl rfl ?_ | refine wpList_store_newA A25 rfl _ _ rfl _ rfl (hc RT) (by rw [hc_size, RL.out]) (hc_one _) rfl rfl ?_))
  have D2 := hide (below_next D1.out ((Below.refl W1.heap.size W1).alloc (Nat.le_refl _) (.cells (hc RT) 46)))
  have R10 := hide (heap_alloc_last W1 (.cells (hc RT) 46))
  clear D1 HR
  generalize W1.alloc (.cells (hc RT) 46) = W2 at *
  generalize W1.heap.size = g10 at *
  have R1b := hide ((D2.out.block _ (lt_heap R1.out)).trans R1.out)
  have PZ : Hid ((hc p).size = 32 ∧ (hc RT).size = 32) := ⟨by rw [hc_size, PL.out], by rw [hc_size, RL.out]⟩
  go_upto_region 3 with ((with_reducible refine at_list ?_); first | refine wpList_loadS A25 _ rfl w.heap.size rfl (hc p) PZ.out.1 46 R1b.out (by rfl) ?_ | refine wpList_loadS A25 _ rfl g10 rfl (hc RT) PZ.out.2 46 R10.out (by rfl) ?_ | refine wpList_bldX rfl _ rfl #[(0, .int .u32 1), (1, .agg (hc p)), (2, .agg (hc RT)), (3, .int .u32 (t.toNat : Int)), (4, .int .u32 (b.toNat : Int))] CH (by simp only [List.map_toArray, List.map_cons, List.map_nil]; rfl) BH.out ?_ | refine wpList_allocA AHd rfl rfl ?_ | refine wpList_store_newA AHd rfl _ _ rfl _ rfl CH HZ.out HA.out rfl rfl ?_)
  have D3 := hide (below_next D2.out ((Below.refl W2.heap.size W2).alloc (Nat.le_refl _) (.cells CH 48)))
  have R12 := hide (heap_alloc_last W2 (.cells CH 48))
  clear R1b R10 D2 BH
  generalize W2.alloc (.cells CH 48) = W3 at *
  generalize W2.heap.size = g12 at *
  go_upto_region 4 with (first | (go_at_call 175; refine (HE.out _ (HL.out.below D3.out)).mono ?_; rintro r W4 ⟨rfl, be⟩; have D4 := hide (below_next D3.out be); have R12b := hide ((be.block _ (lt_heap R12.out)).trans R12.out); clear be) | ((with_reducible refine at_list ?_); first | refine wpList_loadS AHd _ rfl g12 rfl CH HZ.out 48 R12.out (by rfl) ?_ | refine wpList_bldX rfl _ rfl #[(0, .agg CH), (1, .slice av 1 cv)] BHA (by simp only [List.map_toArray, List.map_cons, List.map_nil]; rfl) BB.out ?_))
  clear D3 R12 HE BB
  go_upto_region 6 with fail
  go_upto_region 7 with (first | (go_at_call 52; refine (HM.out _ (KS.out.next D4.out)).mono ?_; rintro r W5 ⟨rfl, be⟩; have D5 := hide (below_next D4.out be); clear be) | ((with_reducible refine at_list ?_); first | refine wpList_loadS AHd _ rfl g12 rfl CH HZ.out 48 R12b.out (by rfl) ?_ | refine wpList_allocA AHd rfl rfl ?_ | refine wpList_store_newA AHd rfl _ _ rfl _ rfl CK KZ.out KA'.out rfl rfl ?_))
  have D6 := hide (below_next D5.out ((Below.refl W5.heap.size W5).alloc (Nat.le_refl _) (.cells CK 48)))
  have R15 := hide (heap_alloc_last W5 (.cells CK 48))
  have NG : Hid (w.heap.size + 1 ≠ W5.heap.size) := by
    have h1 := lt_heap R2.out
    have h2 := D5.out.size
    show w.heap.size + 1 ≠ W5.heap.size
    omega
  clear D4 D5 R12b HM
  generalize W5.alloc (.cells CK 48) = W6 at *
  generalize W5.heap.size = g15 at *
  go_upto_region 9 with fail
  have BW := hide (below_next B1.out D6.out)
  have RZ := hide ((D6.out.block _ (lt_heap R2.out)).trans R2.out)
  have HL6 := hide (HL.out.below D6.out)
  have SS : Hid (∀ W, Below W6.heap.size W6 W → Below w.heap.size w W ∧ W.heap[g15]? = some (.cells CK 48 (0, 0))) := fun W bw => ⟨below_next BW.out bw, (bw.block _ (lt_heap R15.out)).trans R15.out⟩
  have DV1 := hide ((Below.refl W6.heap.size W6).drew)
  refine wp_region_held_drew (S := fun W => Below w.heap.size w W ∧ W.heap[g15]? = some (.cells CK 48 (0, 0))) (by kernel_rfl) (SS.out _ DV1.out) (fun hH => ?_)
  generalize hWd : W6.drew = V1 at *
  clear hWd
  refine wt (i := 0) (v := (.agg CK)) rfl (yl_load (by rfl) _ (by rfl) _ CK (by rfl) (fun W hS => ld_row AHd KZ.out hS.2)) hH ?_
  change wpAnyH _ _ _ _ _ _ _ (Act.put _ (some 46) _) _
  simp only [Act.put, s0, s1, s2]
  refine wt (i := 1) (v := (.slice av 1 cv)) rfl (yl_move (by rfl) _ (by rfl) _ (by rfl)) hH ?_
  change wpAnyH _ _ _ _ _ _ _ (Act.put _ (some 47) _) _
  simp only [Act.put, s0, s1, s2]
  refine wpAnyH_ready (rs := [2]) (by kernel_rfl) (by simp) (AllReadyH.cons rfl (fun K1 hK1 => ?_) AllReadyH.nil)
  go_simp
  refine (HC.out V1 (HL6.out.below DV1.out)).mono ?_
  rintro r V2 ⟨ao, cap, y, rfl, lq, hm, be⟩
  have DV2 := hide (below_next DV1.out be)
  have LY := hide lq
  have YM := hide hm
  have R3 := hide ((DV2.out.block _ (lt_heap RZ.out)).trans RZ.out)
  refine hK1.out _ _ (SS.out _ DV2.out) (fun hH => ?_)
  clear hK1 be lq hm
  have BZ := hide (bkA_size (h.at k) (.slice ao 1 cap))
  have BA := hide (bkA_all (h.at k) ao 1 cap)
  have BC2 := hide (fun W => BC.out W ao cap)
  generalize hBK : bkA (h.at k) (.slice ao 1 cap) = BK at *
  have HBK := hide hBK
  clear hBK
  refine wt (i := 3) (v := (.agg BK)) rfl (yl_build (by rfl) _ (by rfl) #[(0, .agg CK), (1, .slice ao 1 cap)] _ (by simp only [List.map_toArray, List.map_cons, List.map_nil]; rfl) BC2.out) hH ?_
  change wpAnyH _ _ _ _ _ _ _ (Act.put _ (some 49) _) _
  simp only [Act.put, s0, s1, s2]
  refine wpAnyH_ready (rs := [4]) (by kernel_rfl) (by simp) (AllReadyH.cons rfl (fun K1 hK1 => ?_) AllReadyH.nil)
  refine stepStoreA ABk (by rfl) _ _ (by rfl) (w.heap.size + 1) BK BZ.out BA.out (by rfl) (by rfl) (bkA zHd (.slice none 0 0)) (bkA_size _ _) 62 R3.out ?_
  refine hK1.out _ _ ⟨below_setRow (below_next BW.out DV2.out) (by omega) _, (setRow_other _ _ _ _ (Ne.symm NG.out)).trans ((DV2.out.block _ (lt_heap R15.out)).trans R15.out)⟩ (fun hH => ?_)
  clear hK1
  change wpAnyH _ _ _ _ _ _ _ (Act.put _ none _) _
  simp only [Act.put]
  refine wt (i := 5) (v := (.int .i64 0)) rfl (.inl ⟨by rfl, fun W _ => by go_simp⟩) hH ?_
  change wpAnyH _ _ _ _ _ _ _ (Act.put _ (some 9) _) _
  simp only [Act.put, s0, s1, s2]
  refine wpAnyH_done (by kernel_rfl) ?_ _
  clear hH
  go_wp2
  have AG : ∀ g', W6.heap.size ≤ g' → (V2.setRow (w.heap.size + 1) BK).heap[g']? = V2.heap[g']? := fun g' hg => setRow_other _ _ _ _ (by have := lt_heap RZ.out; omega)
  exact bodyPost_ret (v := .tuple #[.agg BK, .int .i64 0]) (resA2K ABk Tryz.results107 _ _ (w.heap.size + 1) 62 _ BZ.out rfl (setRow_heap _ _ _ _ _ _ R3.out) _ rfl) rfl ⟨ao, cap, y, by rw [HBK.out], fun W' ag => LY.out W' (fun g hg hl => (ag g (Nat.le_trans (below_next BW.out DV1.out).size hg) (by simpa using hl)).trans (AG g (Nat.le_trans DV1.out.size hg))), YM.out, below_setRow (below_next BW.out DV2.out) (by omega) _⟩
end
def gX : ByteArray := ⟨#[98, 101, 100, 114, 111, 99, 107]⟩
def gO : Tu := ⟨5000, ⟨#[]⟩⟩
def gT : Tm := cbT 0 gX [gO]
def gH : Hd := ⟨1, zeros, gT.idT, 1600000000, 545259519, 0, zeros_len, gT.idT_len⟩
theorem gT_told : gT.toldE = 0 := by decide +kernel
theorem gT_len : gT.bytes.length = 71 := by decide +kernel
theorem gT_fit : gT.fit := ⟨by decide, by decide⟩
theorem gH_no : (gH.at 0).meets = false := by decide +kernel
theorem gH_yes : (gH.at 1).meets = true := by decide +kernel
theorem rtL_oneB (i : List UInt8) : rtL [i] = i := rfl
theorem muL_oneB (i : List UInt8) : muL [i] = false := rfl
theorem LX.of_row1 {α : Type} (E : Ek α) {W : World} {g : Nat} {t : TypeId} {x : α} (h : W.heap[g]? = some (.cells (E.enc x).toArray t (0, 0))) : LX E W (.slice (some ⟨g, 0, none⟩) 1 1) [x] :=
  ⟨_, 1, rfl, Nat.le_refl _, fun i hi => by
    have h0 : i = 0 := by simpa using hi
    subst h0
    refine ⟨g, 0, rfl, lt_heap h, ?_⟩
    rw [Nat.zero_mul]
    exact rowAt _ h⟩
theorem bld_gO (W : World) : (Instr.build 156 #[(0, .int .u64 5000)]).run Tryz.prog W = .ok (.agg gO.cells.toArray) W := by kernel_rfl
section
set_option maxRecDepth 10000
set_option maxHeartbeats 4000000
theorem gbuild (x : Tq) (hm : x.m = gT) (v : Value) (w : World) (hL : LQ w v [x]) (hK : Kg w) : Calls Tryz.prog 107 #[.agg (hc zeros), .int .u32 1600000000, .int .u32 545259519, v] w fun e w' => ∃ ao cap y, e = .returned (.tuple #[.agg (bkA (gH.at 1) (.slice ao 1 cap)), .int .i64 0]) ∧ (∀ W' : World, (∀ g, w.heap.size ≤ g → g < w'.heap.size → W'.heap[g]? = w'.heap[g]?) → LQ W' (.slice ao 1 cap) [y]) ∧ y.m = gT ∧ Below w.heap.size w w' := by
  have e1 : idsL [x] = [gT.idT] := by show [x.m.idT] = _; rw [hm]
  have e2 : rtL (idsL [x]) = gT.idT := by rw [e1, rtL_oneB]
  have e3 : txsB [x] = gT.bytes := by show x.m.bytes ++ [] = _; rw [hm, List.append_nil]
  have e4 : bkB gH [x] = gH.bytes ++ countL 1 ++ gT.bytes := by show gH.bytes ++ countL 1 ++ txsB [x] = _; rw [e3]
  have q := build_yes zeros zeros_len 1600000000 545259519 v x w hL (by rw [hm]; exact gT_told) gH (by unfold gH; congr 1; exact e2.symm) (by rw [e4, List.length_append, List.length_append, gH.bytes_len, gT_len]; decide) 1 (by omega) (fun j hj => by
    obtain rfl : j = 0 := by omega
    exact gH_no) gH_yes hK
  rw [hm] at q
  exact q
end
end Go.Proofs.YtcoojkpimbddlaaGreatDoor
