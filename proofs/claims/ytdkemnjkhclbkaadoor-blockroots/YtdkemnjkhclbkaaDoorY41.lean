/- The law's ref: its contract. -/
import Derived.Test.YtdkemnjkhclbkaaDoorY39
namespace Go.Proofs.YtdkemnjkhclbkaaDoor
open Go.RowKit
open Go.Deep
set_option linter.unusedVariables false
theorem El.far {V W1 V' : World} {g : Nat} {v : Value} {y : Tq} (hg : g < V.heap.size) (hv : ∀ k, v.ownBlock = some k → k < V.heap.size) (hf : y.m.fit) (far : ∀ W' : World, (∀ k, V.heap.size ≤ k → k < W1.heap.size → W'.heap[k]? = W1.heap[k]?) → LR W' y.m y.ai y.ci y.ao y.co) (b : Below W1.heap.size W1 V') : El V' g v y :=
  ⟨hf, V.heap.size, W1.heap.size, hg, b.size, fun k hk hh => by have := hv k hk; omega, fun W' ag => far W' fun k h1 h2 => (ag k h1 h2).trans (b.block k h2)⟩
theorem El.sees {W W' : World} {g3 : Nat} {v : Value} {x : Tq} (h : El W g3 v x) (ag : ∀ k, g3 < k → k < W.heap.size → W'.heap[k]? = W.heap[k]?) : x.canR W' := by
  obtain ⟨hf, lo, hi, h1, h2, h3, h4⟩ := h
  exact ⟨h4 W' fun k ga gb => ag k (by omega) (by omega), hf⟩
section
variable {w W W' : World} {g : Nat} {C : Array Value} {h : Hd} {P : List Tq} {ai : Option Addr} {ci : Nat}
theorem Rv.next (j : Rv w g W C h P ai ci) (k : Below W.heap.size W W') : Rv w g W' C h P ai ci := ⟨below_next j.bel k, (k.block _ (lt_heap j.r0)).trans j.r0, (k.block _ (lt_heap j.r1)).trans j.r1, j.hg, (k.block _ (lt_heap j.r3)).trans j.r3, j.x.below k, j.f, fun y hy => (j.e y hy).next k⟩
theorem Rv.onto {v' : Value} (j : Rv w g W C h P ai ci) (on : Onto W W' (.slice ai P.length ci) v') : Below w.heap.size w W' ∧ ∀ k, k ≤ g → W'.heap[k]? = W.heap[k]? := by
  have hr := lt_heap j.r3
  have hg := j.hg
  have hk : ∀ k, k ≤ g → W'.heap[k]? = W.heap[k]? := fun k hk => on.grown.block k (by omega) (fun e => by have := j.f k e.symm; omega)
  have q := on.grown
  refine ⟨⟨q.os.trans j.bel.os, q.tape.trans j.bel.tape, q.output.trans j.bel.output, ?_, fun k k1 => (hk k (by omega)).trans (j.bel.block k k1)⟩, hk⟩
  have := j.bel.size
  have := q.size
  omega
theorem Rv.app {ai' : Option Addr} {ci' : Nat} {y : Tq} (j : Rv w g W C h P ai ci) (ey : El W g (.slice ai P.length ci) y) (q : OX KTr W' (.slice ai' (P ++ [y]).length ci') (P ++ [y])) (on : Onto W W' (.slice ai P.length ci) (.slice ai' (P ++ [y]).length ci')) : Rv w g (W'.setCell ⟨g, 68, none⟩ (.slice ai' (P ++ [y]).length ci')) C h (P ++ [y]) ai' ci' := by
  obtain ⟨b1, hk⟩ := j.onto on
  have hr := lt_heap j.r3
  have hg := j.hg
  have f1 : ∀ k, (Value.slice ai' (P ++ [y]).length ci').ownBlock = some k → g < k := fun b hb => by
    rcases on.lies with q | ⟨c, q, hc⟩
    · exact j.f b (by rw [← q]; exact hb)
    · rw [q] at hb
      cases hb
      omega
  have hs : ∀ k, k ≠ g → (W'.setCell ⟨g, 68, none⟩ (.slice ai' (P ++ [y]).length ci')).heap[k]? = W'.heap[k]? := fun k hk => blk_setCell_other W' ⟨g, 68, none⟩ _ k hk
  refine ⟨⟨b1.os, b1.tape, b1.output, by have := b1.size; simpa using this, fun k k1 => (hs k (by omega)).trans (b1.block k k1)⟩, (hs _ (by omega)).trans ((hk _ (by omega)).trans j.r0), (hs _ (by omega)).trans ((hk _ (by omega)).trans j.r1), hg, ?_, q.of_block fun k hk => hs k (by have := f1 k hk; omega), f1, fun z hz => ?_⟩
  · rw [heap_setCell_same W' _ 68 _ _ _ ((hk _ (Nat.le_refl _)).trans j.r3), bkA_set]
  · rcases List.mem_append.1 hz with hz | hz
    · exact ((j.e z hz).onto on).set 68 _
    · rw [List.mem_singleton] at hz
      subst hz
      exact (ey.onto on).set 68 _
end
section
set_option maxRecDepth 10000
set_option maxHeartbeats 4000000
theorem ref_any (h : Hd) (v : Value) (L : List Tq) (w : World) (hL : LQ w v L) (hn : L.length * 64 ≤ 140737488355328) : Calls Tryd.prog 6 #[.agg (bkA h v)] w fun e w' => ∃ (ai : Option Addr) (ci : Nat) (P : List Tq), e = .returned (.agg (bkA h (.slice ai P.length ci))) ∧ P.map (·.m) = L.map (·.m) ∧ (∀ W' : World, (∀ k, w.heap.size ≤ k → k < w'.heap.size → W'.heap[k]? = w'.heap[k]?) → LQr W' (.slice ai P.length ci) P) ∧ Below w.heap.size w w' := by
  obtain ⟨ao, cap, rfl⟩ := hL.l.form
  have y0 := heap_alloc_last w (.cells (bkA h (.slice ao L.length cap)) 29)
  have y1 := (Below.heap_alloc _ (.cells (bkA zHd (.slice none 0 0)) 36) _ (lt_heap y0)).trans y0
  have y2 := heap_alloc_last (w.alloc (.cells (bkA h (.slice ao L.length cap)) 29)) (.cells (bkA zHd (.slice none 0 0)) 36)
  have sz1 : (w.alloc (.cells (bkA h (.slice ao L.length cap)) 29)).heap.size = w.heap.size + 1 := by simp
  rw [sz1] at y2
  have R0 := hide y1
  have R1 := hide y2
  have SZ2 : Hid (((w.alloc (.cells (bkA h (.slice ao L.length cap)) 29)).alloc (.cells (bkA zHd (.slice none 0 0)) 36)).heap.size = w.heap.size + 1 + 1) := by show _ = _; simp
  have B2 := hide (((Below.refl w.heap.size w).alloc (Nat.le_refl _) (.cells (bkA h (.slice ao L.length cap)) 29)).alloc (by simp) (.cells (bkA zHd (.slice none 0 0)) 36))
  have HL := hide hL
  have HN := hide hn
  have RC : Hid (∀ W : World, W.heap[w.heap.size]? = some (.cells (bkA h (.slice ao L.length cap)) 29 (0, 0)) → W.cell? ⟨w.heap.size, 68, none⟩ = some (.slice ao L.length cap)) := fun W e => bkA_txs e
  have RH := hide (bkA_head R0.out)
  have BB := hide (bld_rBk h)
  have BZ := hide (bkA_size h)
  have BA := hide (bkA_all h)
  have HH := hide (lhead_any h)
  have HZ := hide h.size
  clear hL hn y0 y1 y2
  generalize bkA h (.slice ao L.length cap) = C at *
  go_enter Tryd.func6, Tryd.ntmps6
  go_upto_region 1 with ((with_reducible refine at_list ?_); first | refine wpList_boxA rfl _ rfl C rfl ?_ | refine wpList_allocA ABr rfl rfl ?_)
  try rw [sz1]
  generalize hW : (w.alloc (.cells C 29)).alloc (.cells (bkA zHd (.slice none 0 0)) 36) = W0 at *
  clear hW sz1
  go_upto_region 2 with (first | (go_at_call 22; refine (HH.out _).mono ?_; rintro r W1 ⟨rfl, be⟩; have D1 := hide be; clear be) | ((with_reducible refine at_list ?_); first | refine wpLoadHd _ rfl w.heap.size 0 rfl h RH.out (by rfl) ?_ | refine wpList_bldX rfl _ rfl #[(0, .agg h.cells.toArray)] (bkA h (.slice none 0 0)) (by simp only [List.map_toArray, List.map_cons, List.map_nil]; rfl) BB.out ?_ | refine wpList_allocA ABr rfl rfl ?_ | refine wpList_store_newA ABr rfl _ _ rfl _ rfl (bkA h (.slice none 0 0)) (BZ.out _) (BA.out _ _ _) rfl rfl ?_))
  have D2 := hide (below_next D1.out ((Below.refl W1.heap.size W1).alloc (Nat.le_refl _) (.cells (bkA h (.slice none 0 0)) 36)))
  have G0 : Hid (Rv w W1.heap.size (W1.alloc (.cells (bkA h (.slice none 0 0)) 36)) C h [] none 0) := ⟨below_next B2.out D2.out, (D2.out.block _ (lt_heap R0.out)).trans R0.out, (D2.out.block _ (lt_heap R1.out)).trans R1.out, by have := D1.out.size; rw [SZ2.out] at this; omega, heap_alloc_last _ _, OX.nil _, (fun k hk => by cases hk), (fun y hy => by cases hy)⟩
  clear D1 D2 R0 R1 B2 RH SZ2 HH
  generalize W1.alloc (.cells (bkA h (.slice none 0 0)) 36) = W2 at *
  generalize W1.heap.size = g at *
  go_upto_region 3 with fail
  go_loopw [4] (fun i wr => ∃ (k : Nat) (P : List Tq) (bi : Option Addr) (di : Nat), k ≤ L.length ∧ i = .int .i64 (k : Int) ∧ Hid (P.map (·.m) = (L.take k).map (·.m)) ∧ Hid (Rv w g wr C h P bi di)) (fun i _ => (L.length - intOf i).toNat)
  case atStart => exact ⟨0, [], none, 0, Nat.zero_le _, rfl, rfl, G0⟩
  case round =>
    clear G0
    obtain ⟨k, P, bi, di, hk, rfl, MP, J⟩ := hrel
    have c1 := RC.out _ J.out.r0
    have hn := HN.out
    by_cases hlt : k < L.length
    · have h1 : (k : Int) < (L.length : Int) := by omega
      have h2 : (0 : Int) ≤ (k : Int) := by omega
      have e1 : IntKind.i64.wrap ((k : Int) + 1) = k + 1 := wrapI _ (by omega) (by omega)
      have KK := hide (And.intro (show k + 1 ≤ L.length by omega) (show ((L.length : Int) - ((k : Int) + 1)).toNat < ((L.length : Int) - (k : Int)).toNat by omega))
      obtain ⟨ga, oa, hga⟩ := HL.out.l.base (by omega)
      subst hga
      have RGW : Hid (∀ W, Below w.heap.size w W → W.rangeAt ga (oa + k * 4) L[k].cells) := fun W b => (HL.out.below b).l.range k hlt
      have CN := hide (fun W (b : Below w.heap.size w W) => ((HL.out.at k hlt).below b).1)
      have FX := hide (HL.out.at k hlt).2
      have TK := hide (List.take_append_getElem hlt)
      have PL : P.length = k := by
        have := congrArg List.length MP.out
        simp only [List.length_map, List.length_take] at this
        omega
      have KB := hide (show (P.length + 1) * 64 ≤ 140737488355328 by omega)
      generalize L[k] = x at *
      have HO := hide (fun W l => one_far x.m x.ai x.ci x.ao x.co W l FX.out)
      clear hk hlt hn PL
      go_upto_region 5 with fail
      clear c1
      have J1 := hide (J.out.next (Below.refl wr.heap.size wr).drew)
      have SX : Hid (∀ W : World, Below w.heap.size w W → W.heap[w.heap.size]? = some (.cells C 29 (0, 0)) → W.heap[w.heap.size]? = some (.cells C 29 (0, 0)) ∧ W.rangeAt ga (oa + k * 4) x.cells) := fun W b e => ⟨e, RGW.out W b⟩
      refine wp_region_held_drew (S := fun W => W.heap[w.heap.size]? = some (.cells C 29 (0, 0)) ∧ W.rangeAt ga (oa + k * 4) x.cells) (by kernel_rfl) (SX.out _ J1.out.bel J1.out.r0) (fun hH => ?_)
      generalize hWd : wr.drew = V1 at *
      clear hWd J
      refine wpAnyH_take (i := 0) (v := (.pointer (some ⟨g, 68, none⟩))) rfl (by kernel_rfl) (by kernel_rfl) (by kernel_rfl) (fun _ _ _ h => h) (.inl ⟨by rfl, fun W _ => by go_simp⟩) hH ?_
      change wpAnyH _ _ _ _ _ _ _ (Act.put _ (some 16) _) _
      simp only [Act.put, List.setIfInBounds_toArray, List.set_cons_zero, List.set_cons_succ]
      refine wpAnyH_take (i := 2) (v := (.pointer (some ⟨w.heap.size, 68, none⟩))) rfl (by kernel_rfl) (by kernel_rfl) (by kernel_rfl) (fun _ _ _ h => h) (.inl ⟨by rfl, fun W _ => by go_simp⟩) hH ?_
      change wpAnyH _ _ _ _ _ _ _ (Act.put _ (some 18) _) _
      simp only [Act.put, List.setIfInBounds_toArray, List.set_cons_zero, List.set_cons_succ]
      refine wpAnyH_take (i := 3) (v := (.slice (some ⟨ga, oa, none⟩) L.length cap)) rfl (by kernel_rfl) (by kernel_rfl) (by kernel_rfl) (fun _ _ _ h => h) (.inl ⟨by rfl, fun W hS => by have c4 := RC.out W hS.1; go_simp⟩) hH ?_
      change wpAnyH _ _ _ _ _ _ _ (Act.put _ (some 19) _) _
      simp only [Act.put, List.setIfInBounds_toArray, List.set_cons_zero, List.set_cons_succ]
      refine wpAnyH_take (i := 4) (v := (.int .i64 (k : Int))) rfl (by kernel_rfl) (by kernel_rfl) (by kernel_rfl) (fun _ _ _ h => h) (yl_move (by rfl) _ (by rfl) _ (by rfl)) hH ?_
      change wpAnyH _ _ _ _ _ _ _ (Act.put _ (some 20) _) _
      simp only [Act.put, List.setIfInBounds_toArray, List.set_cons_zero, List.set_cons_succ]
      refine wpAnyH_take (i := 5) (v := (.pointer (some ⟨ga, oa + k * 4, none⟩))) rfl (by kernel_rfl) (by kernel_rfl) (by kernel_rfl) (fun _ _ _ h => h) (.inl ⟨by rfl, fun W _ => by go_simp⟩) hH ?_
      change wpAnyH _ _ _ _ _ _ _ (Act.put _ (some 21) _) _
      simp only [Act.put, List.setIfInBounds_toArray, List.set_cons_zero, List.set_cons_succ]
      refine wpAnyH_take (i := 6) (v := (.agg x.arr)) rfl (by kernel_rfl) (by kernel_rfl) (by kernel_rfl) (fun _ _ _ h => h) (yl_load (by rfl) _ (by rfl) _ x.arr (by rfl) (fun W hS => KT.load x Tryd.underlying47 rfl hS.2)) hH ?_
      change wpAnyH _ _ _ _ _ _ _ (Act.put _ (some 22) _) _
      simp only [Act.put, List.setIfInBounds_toArray, List.set_cons_zero, List.set_cons_succ]
      have d4 : V1.cell? ⟨g, 68, none⟩ = some (.slice bi P.length di) := bkA_txs J1.out.r3
      refine wpAnyH_ready (rs := [1, 7]) (by kernel_rfl) (by simp) (AllReadyH.cons rfl (fun K1 hK1 => ?_) (AllReadyH.cons rfl (fun K1 hK1 => ?_) AllReadyH.nil))
      · go_simp
        refine hK1.out _ _ (SX.out _ J1.out.bel J1.out.r0) (fun hH => ?_)
        clear hK1
        refine wpAnyH_ready (rs := [7]) (by kernel_rfl) (by simp) (AllReadyH.cons rfl (fun K1 hK1 => ?_) AllReadyH.nil)
        go_simp
        refine (HO.out V1 (CN.out _ J1.out.bel)).mono ?_
        rintro r W1 ⟨bi2, di2, bo2, d02, rfl, far, be⟩
        have J2 := hide (J1.out.next be)
        obtain ⟨Y, hY⟩ : ∃ Y : Tq, Y = ⟨x.m, bi2, di2, bo2, d02⟩ := ⟨_, rfl⟩
        have YA : x.m.cells bi2 di2 bo2 d02 = Y.arr := by rw [hY]; rfl
        have YM : Hid (Y.m = x.m) := by show Y.m = x.m; rw [hY]
        have EY : Hid (El (W1.alloc (.cells (KTr.enc Y).toArray KTr.e)) g (.slice bi P.length di) Y) := El.far (lt_heap J1.out.r3) (fun k hk => J1.out.x.lt k hk) (by rw [YM.out]; exact FX.out) (by rw [hY]; exact far) ((Below.refl _ _).alloc (Nat.le_refl _) _)
        rw [YA]
        clear far be hY YA
        have d5 : W1.cell? ⟨g, 68, none⟩ = some (.slice bi P.length di) := bkA_txs J2.out.r3
        have J3 := hide (J2.out.next ((Below.refl W1.heap.size W1).alloc (Nat.le_refl _) (.cells (KTr.enc Y).toArray KTr.e)))
        have d6 : (W1.alloc (.cells (KTr.enc Y).toArray KTr.e)).cell? ⟨g, 68, none⟩ = some (.slice bi P.length di) := bkA_txs J3.out.r3
        refine hK1.out _ _ (SX.out _ J2.out.bel J2.out.r0) (fun hH => ?_)
        clear hK1
        refine wpAnyH_ready (rs := [8]) (by kernel_rfl) (by simp) (AllReadyH.cons rfl (fun K1 hK1 => ?_) AllReadyH.nil)
        refine Ek.stepBs1 KTr (by rfl) _ (by rfl) Y (by rfl) ?_
        refine hK1.out _ _ (SX.out _ J3.out.bel J3.out.r0) (fun hH => ?_)
        clear hK1
        change wpAnyH _ _ _ _ _ _ _ (Act.put _ (some 24) _) _
        simp only [Act.put, List.setIfInBounds_toArray, List.set_cons_zero, List.set_cons_succ]
        refine wpAnyH_ready (rs := [9]) (by kernel_rfl) (by simp) (AllReadyH.cons rfl (fun K1 hK1 => ?_) AllReadyH.nil)
        refine Ek.stepApp KTr (by rfl) _ _ (by rfl) (.slice bi P.length di) P (by rfl) J3.out.x ⟨W1.heap.size, 0, none⟩ Y (by rfl) (one_newX W1 Y) (by have := KB.out; show (P.length + 1) * 64 ≤ _; omega) (by have := KB.out; unfold maxLen; omega) ?_
        intro v' W4 o4 on4
        obtain ⟨ao4, co4, rfl⟩ := o4.form
        have OO := hide (J3.out.onto on4)
        have d7 : W4.cell? ⟨g, 68, none⟩ = some (.slice bi P.length di) := bkA_txs ((OO.out.2 _ (Nat.le_refl _)).trans J3.out.r3)
        have d8 : W4.frozen? ⟨g, 68, none⟩ = false := frozen_of_row W4 _ _ _ _ ((OO.out.2 _ (Nat.le_refl _)).trans J3.out.r3)
        have J4 := hide (J3.out.app EY.out o4 on4)
        clear o4 on4
        have R04 := hide ((OO.out.2 _ (by have := J3.out.hg; omega)).trans J3.out.r0)
        refine hK1.out _ _ (SX.out _ OO.out.1 R04.out) (fun hH => ?_)
        clear hK1
        generalize (P ++ [Y]).length = M at *
        change wpAnyH _ _ _ _ _ _ _ (Act.put _ (some 25) _) _
        simp only [Act.put, List.setIfInBounds_toArray, List.set_cons_zero, List.set_cons_succ]
        refine wpAnyH_take (i := 10) (v := (.pointer (some ⟨g, 68, none⟩))) rfl (by kernel_rfl) (by kernel_rfl) (by kernel_rfl) (fun _ _ _ h => h) (.inl ⟨by rfl, fun W _ => by go_simp⟩) hH ?_
        change wpAnyH _ _ _ _ _ _ _ (Act.put _ (some 26) _) _
        simp only [Act.put, List.setIfInBounds_toArray, List.set_cons_zero, List.set_cons_succ]
        refine wpAnyH_ready (rs := [11]) (by kernel_rfl) (by simp) (AllReadyH.cons rfl (fun K1 hK1 => ?_) AllReadyH.nil)
        go_simp
        refine hK1.out _ _ (SX.out _ J4.out.bel J4.out.r0) (fun hH => ?_)
        clear hK1
        refine wpAnyH_done (by kernel_rfl) ?_ _
        clear hH
        have MP2 : Hid ((P ++ [Y]).map (·.m) = (L.take (k + 1)).map (·.m)) := by
          show (P ++ [Y]).map (·.m) = (L.take (k + 1)).map (·.m)
          rw [List.map_append, MP.out, ← TK.out, List.map_append, List.map_cons, List.map_nil, List.map_cons, List.map_nil, YM.out]
        go_wp2
        exact ⟨⟨k + 1, P ++ [Y], ao4, co4, KK.out.1, by go_num, MP2, J4⟩, by simpa [intOf] using KK.out.2⟩
      · go_simp
        refine (HO.out V1 (CN.out _ J1.out.bel)).mono ?_
        rintro r W1 ⟨bi2, di2, bo2, d02, rfl, far, be⟩
        have J2 := hide (J1.out.next be)
        obtain ⟨Y, hY⟩ : ∃ Y : Tq, Y = ⟨x.m, bi2, di2, bo2, d02⟩ := ⟨_, rfl⟩
        have YA : x.m.cells bi2 di2 bo2 d02 = Y.arr := by rw [hY]; rfl
        have YM : Hid (Y.m = x.m) := by show Y.m = x.m; rw [hY]
        have EY : Hid (El (W1.alloc (.cells (KTr.enc Y).toArray KTr.e)) g (.slice bi P.length di) Y) := El.far (lt_heap J1.out.r3) (fun k hk => J1.out.x.lt k hk) (by rw [YM.out]; exact FX.out) (by rw [hY]; exact far) ((Below.refl _ _).alloc (Nat.le_refl _) _)
        rw [YA]
        clear far be hY YA
        have d5 : W1.cell? ⟨g, 68, none⟩ = some (.slice bi P.length di) := bkA_txs J2.out.r3
        have J3 := hide (J2.out.next ((Below.refl W1.heap.size W1).alloc (Nat.le_refl _) (.cells (KTr.enc Y).toArray KTr.e)))
        have d6 : (W1.alloc (.cells (KTr.enc Y).toArray KTr.e)).cell? ⟨g, 68, none⟩ = some (.slice bi P.length di) := bkA_txs J3.out.r3
        refine hK1.out _ _ (SX.out _ J2.out.bel J2.out.r0) (fun hH => ?_)
        clear hK1
        refine wpAnyH_ready (rs := [1, 8]) (by kernel_rfl) (by simp) (AllReadyH.cons rfl (fun K1 hK1 => ?_) (AllReadyH.cons rfl (fun K1 hK1 => ?_) AllReadyH.nil))
        · go_simp
          refine hK1.out _ _ (SX.out _ J2.out.bel J2.out.r0) (fun hH => ?_)
          clear hK1
          refine wpAnyH_ready (rs := [8]) (by kernel_rfl) (by simp) (AllReadyH.cons rfl (fun K1 hK1 => ?_) AllReadyH.nil)
          refine Ek.stepBs1 KTr (by rfl) _ (by rfl) Y (by rfl) ?_
          refine hK1.out _ _ (SX.out _ J3.out.bel J3.out.r0) (fun hH => ?_)
          clear hK1
          change wpAnyH _ _ _ _ _ _ _ (Act.put _ (some 24) _) _
          simp only [Act.put, List.setIfInBounds_toArray, List.set_cons_zero, List.set_cons_succ]
          refine wpAnyH_ready (rs := [9]) (by kernel_rfl) (by simp) (AllReadyH.cons rfl (fun K1 hK1 => ?_) AllReadyH.nil)
          refine Ek.stepApp KTr (by rfl) _ _ (by rfl) (.slice bi P.length di) P (by rfl) J3.out.x ⟨W1.heap.size, 0, none⟩ Y (by rfl) (one_newX W1 Y) (by have := KB.out; show (P.length + 1) * 64 ≤ _; omega) (by have := KB.out; unfold maxLen; omega) ?_
          intro v' W4 o4 on4
          obtain ⟨ao4, co4, rfl⟩ := o4.form
          have OO := hide (J3.out.onto on4)
          have d7 : W4.cell? ⟨g, 68, none⟩ = some (.slice bi P.length di) := bkA_txs ((OO.out.2 _ (Nat.le_refl _)).trans J3.out.r3)
          have d8 : W4.frozen? ⟨g, 68, none⟩ = false := frozen_of_row W4 _ _ _ _ ((OO.out.2 _ (Nat.le_refl _)).trans J3.out.r3)
          have J4 := hide (J3.out.app EY.out o4 on4)
          clear o4 on4
          have R04 := hide ((OO.out.2 _ (by have := J3.out.hg; omega)).trans J3.out.r0)
          refine hK1.out _ _ (SX.out _ OO.out.1 R04.out) (fun hH => ?_)
          clear hK1
          generalize (P ++ [Y]).length = M at *
          change wpAnyH _ _ _ _ _ _ _ (Act.put _ (some 25) _) _
          simp only [Act.put, List.setIfInBounds_toArray, List.set_cons_zero, List.set_cons_succ]
          refine wpAnyH_take (i := 10) (v := (.pointer (some ⟨g, 68, none⟩))) rfl (by kernel_rfl) (by kernel_rfl) (by kernel_rfl) (fun _ _ _ h => h) (.inl ⟨by rfl, fun W _ => by go_simp⟩) hH ?_
          change wpAnyH _ _ _ _ _ _ _ (Act.put _ (some 26) _) _
          simp only [Act.put, List.setIfInBounds_toArray, List.set_cons_zero, List.set_cons_succ]
          refine wpAnyH_ready (rs := [11]) (by kernel_rfl) (by simp) (AllReadyH.cons rfl (fun K1 hK1 => ?_) AllReadyH.nil)
          go_simp
          refine hK1.out _ _ (SX.out _ J4.out.bel J4.out.r0) (fun hH => ?_)
          clear hK1
          refine wpAnyH_done (by kernel_rfl) ?_ _
          clear hH
          have MP2 : Hid ((P ++ [Y]).map (·.m) = (L.take (k + 1)).map (·.m)) := by
            show (P ++ [Y]).map (·.m) = (L.take (k + 1)).map (·.m)
            rw [List.map_append, MP.out, ← TK.out, List.map_append, List.map_cons, List.map_nil, List.map_cons, List.map_nil, YM.out]
          go_wp2
          exact ⟨⟨k + 1, P ++ [Y], ao4, co4, KK.out.1, by go_num, MP2, J4⟩, by simpa [intOf] using KK.out.2⟩
        · refine Ek.stepBs1 KTr (by rfl) _ (by rfl) Y (by rfl) ?_
          refine hK1.out _ _ (SX.out _ J3.out.bel J3.out.r0) (fun hH => ?_)
          clear hK1
          change wpAnyH _ _ _ _ _ _ _ (Act.put _ (some 24) _) _
          simp only [Act.put, List.setIfInBounds_toArray, List.set_cons_zero, List.set_cons_succ]
          refine wpAnyH_ready (rs := [1]) (by kernel_rfl) (by simp) (AllReadyH.cons rfl (fun K1 hK1 => ?_) AllReadyH.nil)
          go_simp
          refine hK1.out _ _ (SX.out _ J3.out.bel J3.out.r0) (fun hH => ?_)
          clear hK1
          refine wpAnyH_ready (rs := [9]) (by kernel_rfl) (by simp) (AllReadyH.cons rfl (fun K1 hK1 => ?_) AllReadyH.nil)
          refine Ek.stepApp KTr (by rfl) _ _ (by rfl) (.slice bi P.length di) P (by rfl) J3.out.x ⟨W1.heap.size, 0, none⟩ Y (by rfl) (one_newX W1 Y) (by have := KB.out; show (P.length + 1) * 64 ≤ _; omega) (by have := KB.out; unfold maxLen; omega) ?_
          intro v' W4 o4 on4
          obtain ⟨ao4, co4, rfl⟩ := o4.form
          have OO := hide (J3.out.onto on4)
          have d7 : W4.cell? ⟨g, 68, none⟩ = some (.slice bi P.length di) := bkA_txs ((OO.out.2 _ (Nat.le_refl _)).trans J3.out.r3)
          have d8 : W4.frozen? ⟨g, 68, none⟩ = false := frozen_of_row W4 _ _ _ _ ((OO.out.2 _ (Nat.le_refl _)).trans J3.out.r3)
          have J4 := hide (J3.out.app EY.out o4 on4)
          clear o4 on4
          have R04 := hide ((OO.out.2 _ (by have := J3.out.hg; omega)).trans J3.out.r0)
          refine hK1.out _ _ (SX.out _ OO.out.1 R04.out) (fun hH => ?_)
          clear hK1
          generalize (P ++ [Y]).length = M at *
          change wpAnyH _ _ _ _ _ _ _ (Act.put _ (some 25) _) _
          simp only [Act.put, List.setIfInBounds_toArray, List.set_cons_zero, List.set_cons_succ]
          refine wpAnyH_take (i := 10) (v := (.pointer (some ⟨g, 68, none⟩))) rfl (by kernel_rfl) (by kernel_rfl) (by kernel_rfl) (fun _ _ _ h => h) (.inl ⟨by rfl, fun W _ => by go_simp⟩) hH ?_
          change wpAnyH _ _ _ _ _ _ _ (Act.put _ (some 26) _) _
          simp only [Act.put, List.setIfInBounds_toArray, List.set_cons_zero, List.set_cons_succ]
          refine wpAnyH_ready (rs := [11]) (by kernel_rfl) (by simp) (AllReadyH.cons rfl (fun K1 hK1 => ?_) AllReadyH.nil)
          go_simp
          refine hK1.out _ _ (SX.out _ J4.out.bel J4.out.r0) (fun hH => ?_)
          clear hK1
          refine wpAnyH_done (by kernel_rfl) ?_ _
          clear hH
          have MP2 : Hid ((P ++ [Y]).map (·.m) = (L.take (k + 1)).map (·.m)) := by
            show (P ++ [Y]).map (·.m) = (L.take (k + 1)).map (·.m)
            rw [List.map_append, MP.out, ← TK.out, List.map_append, List.map_cons, List.map_nil, List.map_cons, List.map_nil, YM.out]
          go_wp2
          exact ⟨⟨k + 1, P ++ [Y], ao4, co4, KK.out.1, by go_num, MP2, J4⟩, by simpa [intOf] using KK.out.2⟩
    · have h1 : ¬ (k : Int) < (L.length : Int) := by omega
      have MPR := MP.out
      rw [List.take_of_length_le (by omega)] at MPR
      have MP2 := hide MPR
      have BZ2 := hide (BZ.out (.slice bi P.length di))
      have BA2 := hide (BA.out bi P.length di)
      have R3 := hide J.out.r3
      have R1 := hide J.out.r1
      have HG := hide J.out.hg
      have FAR : Hid (∀ W' : World, (∀ k, w.heap.size ≤ k → k < (wr.setRow (w.heap.size + 1) (bkA h (.slice bi P.length di))).heap.size → W'.heap[k]? = (wr.setRow (w.heap.size + 1) (bkA h (.slice bi P.length di))).heap[k]?) → LQr W' (.slice bi P.length di) P) := fun W' ag => by
        have hg := J.out.hg
        have a2 : ∀ k, g < k → k < wr.heap.size → W'.heap[k]? = wr.heap[k]? := fun k h1 h2 => (ag k (by omega) (by simpa using h2)).trans (setRow_other _ _ _ _ (by omega))
        exact ⟨(J.out.x.of_block fun k hk => a2 k (J.out.f k hk) (J.out.x.lt k hk)).read, fun y hy => (J.out.e y hy).sees a2⟩
      have D3 := hide (below_setRow J.out.bel (show w.heap.size ≤ w.heap.size + 1 by omega) (bkA h (.slice bi P.length di)))
      clear hk hlt MPR MP J hn
      generalize hBK : bkA h (.slice bi P.length di) = BK at *
      have HBK := hide hBK
      clear hBK
      go_wp2_with ((with_reducible refine at_list ?_); first | refine wpList_loadS ABr _ rfl g rfl BK BZ2.out 36 R3.out (by rfl) ?_ | refine wpList_storeA ABr rfl _ _ rfl (w.heap.size + 1) BK BZ2.out BA2.out rfl rfl (bkA zHd (.slice none 0 0)) (bkA_size _ _) 36 R1.out ?_)
      exact bodyPost_ret (v := .agg BK) (resA ABr Tryd.results6 _ _ (w.heap.size + 1) 36 _ BZ2.out rfl (setRow_heap _ _ _ _ _ _ R1.out)) rfl ⟨bi, di, P, by rw [HBK.out], MP2.out, FAR.out, D3.out⟩
end
end Go.Proofs.YtdkemnjkhclbkaaDoor
