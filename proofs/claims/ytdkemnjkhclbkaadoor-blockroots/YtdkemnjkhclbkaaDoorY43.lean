/- The walk of BlockRoots. -/
import Derived.Test.YtdkemnjkhclbkaaDoorY40
import Derived.Test.YtdkemnjkhclbkaaDoorY41
import Derived.Test.YtdkemnjkhclbkaaDoorY42
namespace Go.Proofs.YtdkemnjkhclbkaaDoor
open Go.RowKit
open Go.Deep
set_option linter.unusedVariables false
theorem idsL_map {P L : List Tq} (h : P.map (·.m) = L.map (·.m)) : idsL P = idsL L := by
  have := congrArg (List.map Tm.idT) h
  simpa [idsL, List.map_map, Function.comp_def] using this
theorem whB_map {P L : List Tq} (h : P.map (·.m) = L.map (·.m)) (hd : Hd) : whB hd P = whB hd L := by
  have hl : P.length = L.length := by simpa using congrArg List.length h
  rw [whB, whB, idsL_map h, hl]
def Hd.with (h : Hd) (l : List UInt8) (hl : l.length = 32) : Hd := { h with root := l, hr := hl }
theorem bkA_setR {W : World} {g : Nat} {t : TypeId} (h : Hd) (v : Value) (l : List UInt8) (hl : l.length = 32) (e : W.heap[g]? = some (.cells (bkA h v) t (0, 0))) : (W.setCells g 33 (cellsL l)).heap[g]? = some (.cells (bkA (h.with l hl) v) t (0, 0)) := by
  have e1 : bkA h v = ((.int .u32 (h.ver.toNat : Int) :: cellsL h.prev) ++ (cellsL h.root ++ [.int .u32 (h.time.toNat : Int), .int .u32 (h.bits.toNat : Int), .int .u32 (h.nonce.toNat : Int), v])).toArray := by simp [bkA, Hd.cells]
  have e2 : bkA (h.with l hl) v = ((.int .u32 (h.ver.toNat : Int) :: cellsL h.prev) ++ (cellsL l ++ [.int .u32 (h.time.toNat : Int), .int .u32 (h.bits.toNat : Int), .int .u32 (h.nonce.toNat : Int), v])).toArray := by simp [bkA, Hd.cells, Hd.with]
  rw [e1] at e
  have := row_setCells [.int .u32 (h.time.toNat : Int), .int .u32 (h.bits.toNat : Int), .int .u32 (h.nonce.toNat : Int), v] g t (cellsL l) (cellsL h.root) (.int .u32 (h.ver.toNat : Int) :: cellsL h.prev) W e (by rw [cellsL_len, cellsL_len, h.hr, hl])
  rw [List.length_cons, cellsL_len, h.hp] at this
  rw [e2]
  exact this
theorem bkA_there {W : World} {g : Nat} {t : TypeId} {h : Hd} {v : Value} (e : W.heap[g]? = some (.cells (bkA h v) t (0, 0))) (o n : Nat) (hn : o + n ≤ 69) : W.there g o n := fun j hj => by
  refine ⟨?_, frozen_of_row W g _ _ _ e⟩
  rw [cell_of_row _ _ _ _ _ _ e, Array.getElem?_eq_getElem (by rw [bkA_size]; omega)]
  rfl
theorem below_sets {w W : World} (b : Below w.heap.size w W) (g o : Nat) (vs : List Value) (hg : w.heap.size ≤ g) : Below w.heap.size w (W.setCells g o vs) := by
  have r := Rfr.setCells g vs o W
  exact ⟨r.os.trans b.os, r.tape.trans b.tape, r.output.trans b.output, Nat.le_trans b.size r.size, fun k hk => (r.block k (Nat.lt_of_lt_of_le hk b.size) (by omega)).trans (b.block k hk)⟩
section
set_option maxRecDepth 10000
set_option maxHeartbeats 8000000
theorem blockRoots_walk (w : World) (hK : Kg w) (h : Hd) (v : Value) (L : List Tq) (hL : LQ w v L) (hn : L.length * 64 ≤ 140737488355328) (f : Bool) : Calls Tryd.prog 3 #[.agg (bkA h v), .bool f] w fun r w' => r = .returned (.bool true) ∧ Below w.heap.size w w' := by
  obtain ⟨ao, cap, rfl⟩ := hL.l.form
  have b1 := (Below.refl w.heap.size w).alloc (Nat.le_refl _) (.cells (bkA h (.slice ao L.length cap)) 29)
  have R1 := hide (heap_alloc_last w (.cells (bkA h (.slice ao L.length cap)) 29))
  have B1 := hide b1
  have HL : Hid (∀ W, Below w.heap.size w W → LQ W (.slice ao L.length cap) L) := fun W b => hL.below b
  have KS : Hid (∀ W, Below w.heap.size w W → Kg W) := fun W b => hK.next b
  have hn2 : L.length < 4398046511104 := by omega
  have HR : Hid (∀ W, LQ W (.slice ao L.length cap) L → Kg W → Calls Tryd.prog 5 #[.slice ao L.length cap] W fun e w' => e = .returned (.tuple #[.agg (hc (rtL (idsL L))), .bool (muL (idsL L))]) ∧ Below W.heap.size W w') := fun W l q => broot_any (.slice ao L.length cap) L W l hn2 q
  have HF := hide (fun W l => ref_any h (.slice ao L.length cap) L W l hn)
  have HRR : Hid (∀ W (P : List Tq) u, P.map (·.m) = L.map (·.m) → LQr W u P → Calls Tryd.prog 7 #[u] W fun e w' => e = .returned (.tuple #[.agg (hc (rtL (idsL L))), .bool (muL (idsL L))]) ∧ Below W.heap.size W w') := fun W P u m l => by
    have hl : P.length = L.length := by simpa using congrArg List.length m
    have := rbroot_any u P W l (by omega)
    rw [idsL_map m] at this
    exact this
  have HW : Hid (∀ (hh : Hd) W, LQ W (.slice ao L.length cap) L → Kg W → Calls Tryd.prog 9 #[.agg (bkA hh (.slice ao L.length cap))] W fun e w' => e = .returned (.bool (whB hh L)) ∧ Below W.heap.size W w') := fun hh W l q => whole_any hh (.slice ao L.length cap) L W l hn2 q
  have HRW : Hid (∀ (hh : Hd) W (P : List Tq) u, P.map (·.m) = L.map (·.m) → LQr W u P → Calls Tryd.prog 10 #[.agg (bkA hh u)] W fun e w' => e = .returned (.bool (whB hh L)) ∧ Below W.heap.size W w') := fun hh W P u m l => by
    have hl : P.length = L.length := by simpa using congrArg List.length m
    have := rwhole_any hh u P W l (by omega)
    rw [whB_map m] at this
    exact this
  have RL := hide (rtL_len (idsL_32 L))
  have CZ := hide (bkA_size h (.slice ao L.length cap))
  have CT : Hid (∀ W : World, W.heap[w.heap.size]? = some (.cells (bkA h (.slice ao L.length cap)) 29 (0, 0)) → W.cell? ⟨w.heap.size, 68, none⟩ = some (.slice ao L.length cap)) := fun W e => bkA_txs e
  have c1 := CT.out _ R1.out
  have GH : Tryd.prog.eqGuardType Tryd.prog.depth 24 = false := by kernel_rfl
  have EI : Hid (∀ W, (Op.equalIn 10000 24 (.agg (hc (rtL (idsL L)))) (.agg (hc (rtL (idsL L))))).run Tryd.prog W = .ok true W) := fun W => by
    have := eqC_bytes (rtL (idsL L)) (rtL (idsL L)) 32 (rtL_len (idsL_32 L)) (rtL_len (idsL_32 L)) 24 Tryd.underlying24 9998 W
    rw [beq_self_eq_true] at this
    exact this
  clear hK b1 hL hn hn2
  generalize rtL (idsL L) = RT at *
  generalize muL (idsL L) = MU at *
  have DZ : Hid ((hc RT).size = 32) := by show _ = _; rw [hc_size, RL.out]
  have TLs : Hid ((hc RT).toList = cellsL RT) := by show _ = _; simp [hc]
  generalize hC : bkA h (.slice ao L.length cap) = C at *
  have HC := hide hC
  clear hC
  go_enter Tryd.func3, Tryd.ntmps3
  go_upto_region 1 with ((with_reducible refine at_list ?_); refine wpList_boxA rfl _ rfl C rfl ?_)
  generalize w.alloc (.cells C 29) = W0 at *
  go_upto_region 2 with (first | (go_at_call 5; refine (HR.out _ (HL.out _ B1.out) (KS.out _ B1.out)).mono ?_; rintro r W1 ⟨rfl, be⟩; have D1 := hide be; clear be) | ((with_reducible refine at_list ?_); first | refine wpList_allocA A25 rfl rfl ?_ | refine wpList_store_newA A25 rfl _ _ rfl _ rfl (hc RT) DZ.out (hc_one _) rfl rfl ?_))
  clear c1
  have D2 := hide (below_next D1.out ((Below.refl W1.heap.size W1).alloc (Nat.le_refl _) (.cells (hc RT) 24)))
  have R5 := hide (heap_alloc_last W1 (.cells (hc RT) 24))
  have G5 : Hid (w.heap.size < W1.heap.size) := Nat.lt_of_lt_of_le (lt_heap R1.out) D1.out.size
  have R2 := hide ((D2.out.block _ (lt_heap R1.out)).trans R1.out)
  have B2 := hide (below_next B1.out D2.out)
  clear D1 D2 R1 B1
  generalize W1.alloc (.cells (hc RT) 24) = W2 at *
  generalize W1.heap.size = g5 at *
  go_upto_region 3 with (first | (go_at_call 6; refine (HF.out _ (HL.out _ B2.out)).mono ?_; rintro r W3 ⟨ai, ci, P, rfl, mp, far, be⟩; have D3 := hide be; have MP := hide mp; have FAR := hide far; have KZ := hide (bkA_size h (.slice ai P.length ci)); have KA2 := hide (bkA_all h ai P.length ci); clear be mp far) | ((with_reducible refine at_list ?_); first | refine wpList_loadS ABk _ rfl w.heap.size rfl C CZ.out 29 R2.out (by rfl) ?_ | refine wpList_allocA ABr rfl rfl ?_ | refine wpList_store_newA ABr rfl _ _ rfl _ rfl (bkA h (.slice ai P.length ci)) KZ.out KA2.out rfl rfl ?_))
  have b4 := (Below.refl W3.heap.size W3).alloc (Nat.le_refl _) (.cells (bkA h (.slice ai P.length ci)) 36)
  have D4 := hide (below_next D3.out b4)
  have R7 := hide (heap_alloc_last W3 (.cells (bkA h (.slice ai P.length ci)) 36))
  have G7 : Hid (w.heap.size < W3.heap.size) := Nat.lt_of_lt_of_le (lt_heap R2.out) D3.out.size
  have R2b := hide ((D4.out.block _ (lt_heap R2.out)).trans R2.out)
  have R5b := hide ((D4.out.block _ (lt_heap R5.out)).trans R5.out)
  have B4 := hide (below_next B2.out D4.out)
  have G57 : Hid (g5 < W3.heap.size) := Nat.lt_of_lt_of_le (lt_heap R5.out) D3.out.size
  have FR : Hid (∀ W', (∀ k, k ≠ w.heap.size → k < W3.heap.size → W'.heap[k]? = (W3.alloc (.cells (bkA h (.slice ai P.length ci)) 36)).heap[k]?) → LQr W' (.slice ai P.length ci) P) := fun W' ag => FAR.out W' fun k h1 h2 => (ag k (by have := lt_heap R2.out; omega) h2).trans (b4.block k h2)
  clear b4 D3 D4 R2 R5 B2 FAR HF
  generalize W3.alloc (.cells (bkA h (.slice ai P.length ci)) 36) = W4 at *
  generalize W3.heap.size = g7 at *
  have c7 := bkA_txs R7.out
  have HRP := hide (fun W l => HRR.out W P (.slice ai P.length ci) MP.out l)
  generalize hCR : bkA h (.slice ai P.length ci) = CR at *
  have HCR := hide hCR
  clear hCR
  go_upto_region 4 with (first | (go_at_call 7; refine (HRP.out _ (FR.out _ (fun _ _ _ => rfl))).mono ?_; rintro r W5 ⟨rfl, be⟩; have D5 := hide be; clear be) | ((with_reducible refine at_list ?_); first | refine wpList_allocA A24 rfl rfl ?_ | refine wpList_store_newA A24 rfl _ _ rfl _ rfl (hc RT) DZ.out (hc_one _) rfl rfl ?_))
  clear c7
  have D6 := hide (below_next D5.out ((Below.refl W5.heap.size W5).alloc (Nat.le_refl _) (.cells (hc RT) 23)))
  have R8 := hide (heap_alloc_last W5 (.cells (hc RT) 23))
  have G8 : Hid (g7 < W5.heap.size) := Nat.lt_of_lt_of_le (lt_heap R7.out) D5.out.size
  have R2c := hide ((D6.out.block _ (lt_heap R2b.out)).trans R2b.out)
  have R5c := hide ((D6.out.block _ (lt_heap R5b.out)).trans R5b.out)
  have R7c := hide ((D6.out.block _ (lt_heap R7.out)).trans R7.out)
  have B6 := hide (below_next B4.out D6.out)
  have FR6 : Hid (∀ W', (∀ k, k ≠ w.heap.size → k < g7 → W'.heap[k]? = (W5.alloc (.cells (hc RT) 23)).heap[k]?) → LQr W' (.slice ai P.length ci) P) := fun W' ag => FR.out W' fun k h1 h2 => (ag k h1 h2).trans (D6.out.block k (by have := lt_heap R7.out; omega))
  clear D5 D6 R2b R5b R7 B4 FR HRP HRR HR
  generalize W5.alloc (.cells (hc RT) 23) = W6 at *
  generalize W5.heap.size = g8 at *
  cases f
  · have TB : Hid (Below w.heap.size w (W6)) := B6
    have T2 : Hid ((W6).heap[w.heap.size]? = some (.cells (bkA (h) (.slice ao L.length cap)) 29 (0, 0))) := by show _ = _; rw [HC.out]; exact R2c.out
    have T5 : Hid ((W6).heap[g5]? = some (.cells (hc RT) 24 (0, 0))) := R5c
    have T7 : Hid ((W6).heap[g7]? = some (.cells (bkA (h) (.slice ai P.length ci)) 36 (0, 0))) := by show _ = _; rw [HCR.out]; exact R7c.out
    have T8 : Hid ((W6).heap[g8]? = some (.cells (hc RT) 23 (0, 0))) := R8
    have TR : Hid (LQr (W6) (.slice ai P.length ci) P) := FR6.out _ (fun _ _ _ => rfl)
    have TL := hide (HL.out _ TB.out)
    have TK := hide (KS.out _ TB.out)
    have HWH := hide (fun W l q => HW.out (h) W l q)
    have HRH := hide (fun W l => HRW.out (h) W P (.slice ai P.length ci) MP.out l)
    have BZ := hide (bkA_size (h) (.slice ao L.length cap))
    have RZ := hide (bkA_size (h) (.slice ai P.length ci))
    clear HL KS HW HRW MP HC HCR CZ KZ KA2 CT FR6 RL TLs R2c R5c R7c R8 B6
    generalize bkA (h) (.slice ao L.length cap) = BK at *
    generalize bkA (h) (.slice ai P.length ci) = BR at *
    generalize whB (h) L = WB at *
    generalize W6 = W9 at *
    have X2 : Hid (∀ W, Below W9.heap.size W9 W → W.heap[w.heap.size]? = some (.cells BK 29 (0, 0))) := fun W b => (b.block _ (lt_heap T2.out)).trans T2.out
    have X5 : Hid (∀ W, Below W9.heap.size W9 W → W.heap[g5]? = some (.cells (hc RT) 24 (0, 0))) := fun W b => (b.block _ (lt_heap T5.out)).trans T5.out
    have X7 : Hid (∀ W, Below W9.heap.size W9 W → W.heap[g7]? = some (.cells BR 36 (0, 0))) := fun W b => (b.block _ (lt_heap T7.out)).trans T7.out
    have X8 : Hid (∀ W, Below W9.heap.size W9 W → W.heap[g8]? = some (.cells (hc RT) 23 (0, 0))) := fun W b => (b.block _ (lt_heap T8.out)).trans T8.out
    have DV1 := hide ((Below.refl W9.heap.size W9).drew)
    go_upto_region 7 with fail
    refine wp_region_held_drew (S := fun W => Below W9.heap.size W9 W) (by kernel_rfl) DV1.out (fun hH => ?_)
    generalize hWd : W9.drew = V1 at *
    clear hWd
    have ht1 : (MU == MU) = true := by simp
    have ht2 : (WB == WB) = true := by simp
    refine wpAnyH_ready (rs := [0]) (by kernel_rfl) (by simp) (AllReadyH.cons rfl (fun K1 hK1 => ?_) AllReadyH.nil)
    go_simp
    refine (awake11 V1 (TK.out.next DV1.out)).mono ?_
    rintro r V2 ⟨rfl, be⟩
    have DV2 := hide (below_next DV1.out be)
    clear be
    refine hK1.out _ _ DV2.out (fun hH => ?_)
    clear hK1
    refine wpAnyH_take (i := 1) (v := (.bool true)) rfl (by kernel_rfl) (by kernel_rfl) (by kernel_rfl) (fun _ _ _ h => h) (yl_move (by rfl) _ (by rfl) _ (by rfl)) hH ?_
    change wpAnyH _ _ _ _ _ _ _ (Act.put _ (some 32) _) _
    simp only [Act.put, List.setIfInBounds_toArray, List.set_cons_zero, List.set_cons_succ]
    refine wpAnyH_take (i := 2) (v := (.agg (hc RT))) rfl (by kernel_rfl) (by kernel_rfl) (by kernel_rfl) (fun _ _ _ h => h) (yl_load (by rfl) _ (by rfl) _ (hc RT) (by rfl) (fun W hS => ld_row A25 DZ.out (X5.out W hS))) hH ?_
    change wpAnyH _ _ _ _ _ _ _ (Act.put _ (some 33) _) _
    simp only [Act.put, List.setIfInBounds_toArray, List.set_cons_zero, List.set_cons_succ]
    refine wpAnyH_take (i := 3) (v := (.agg (hc RT))) rfl (by kernel_rfl) (by kernel_rfl) (by kernel_rfl) (fun _ _ _ h => h) (yl_load (by rfl) _ (by rfl) _ (hc RT) (by rfl) (fun W hS => ld_row A24 DZ.out (X8.out W hS))) hH ?_
    change wpAnyH _ _ _ _ _ _ _ (Act.put _ (some 34) _) _
    simp only [Act.put, List.setIfInBounds_toArray, List.set_cons_zero, List.set_cons_succ]
    refine wpAnyH_take (i := 4) (v := (.bool true)) rfl (by kernel_rfl) (by kernel_rfl) (by kernel_rfl) (fun _ _ _ h => h) (yl_eqlB (by rfl) 24 _ _ _ (by rfl) (hc RT) (hc RT) (by rfl) (by rfl) GH true EI.out) hH ?_
    change wpAnyH _ _ _ _ _ _ _ (Act.put _ (some 35) _) _
    simp only [Act.put, List.setIfInBounds_toArray, List.set_cons_zero, List.set_cons_succ]
    refine wpAnyH_take (i := 5) (v := (.bool true)) rfl (by kernel_rfl) (by kernel_rfl) (by kernel_rfl) (fun _ _ _ h => h) (.inl ⟨by rfl, fun W _ => by go_simp⟩) hH ?_
    change wpAnyH _ _ _ _ _ _ _ (Act.put _ (some 36) _) _
    simp only [Act.put, List.setIfInBounds_toArray, List.set_cons_zero, List.set_cons_succ]
    refine wpAnyH_take (i := 6) (v := (.bool true)) rfl (by kernel_rfl) (by kernel_rfl) (by kernel_rfl) (fun _ _ _ h => h) (yl_move (by rfl) _ (by rfl) _ (by rfl)) hH ?_
    change wpAnyH _ _ _ _ _ _ _ (Act.put _ (some 37) _) _
    simp only [Act.put, List.setIfInBounds_toArray, List.set_cons_zero, List.set_cons_succ]
    refine wpAnyH_take (i := 7) (v := (.bool MU)) rfl (by kernel_rfl) (by kernel_rfl) (by kernel_rfl) (fun _ _ _ h => h) (yl_move (by rfl) _ (by rfl) _ (by rfl)) hH ?_
    change wpAnyH _ _ _ _ _ _ _ (Act.put _ (some 38) _) _
    simp only [Act.put, List.setIfInBounds_toArray, List.set_cons_zero, List.set_cons_succ]
    refine wpAnyH_take (i := 8) (v := (.bool MU)) rfl (by kernel_rfl) (by kernel_rfl) (by kernel_rfl) (fun _ _ _ h => h) (yl_move (by rfl) _ (by rfl) _ (by rfl)) hH ?_
    change wpAnyH _ _ _ _ _ _ _ (Act.put _ (some 39) _) _
    simp only [Act.put, List.setIfInBounds_toArray, List.set_cons_zero, List.set_cons_succ]
    refine wpAnyH_take (i := 9) (v := (.bool true)) rfl (by kernel_rfl) (by kernel_rfl) (by kernel_rfl) (fun _ _ _ h => h) (.inl ⟨by rfl, fun W _ => by go_simp⟩) hH ?_
    change wpAnyH _ _ _ _ _ _ _ (Act.put _ (some 40) _) _
    simp only [Act.put, List.setIfInBounds_toArray, List.set_cons_zero, List.set_cons_succ]
    refine wpAnyH_take (i := 10) (v := (.bool true)) rfl (by kernel_rfl) (by kernel_rfl) (by kernel_rfl) (fun _ _ _ h => h) (.inl ⟨by rfl, fun W _ => by go_simp⟩) hH ?_
    change wpAnyH _ _ _ _ _ _ _ (Act.put _ (some 41) _) _
    simp only [Act.put, List.setIfInBounds_toArray, List.set_cons_zero, List.set_cons_succ]
    refine wpAnyH_take (i := 11) (v := (.bool true)) rfl (by kernel_rfl) (by kernel_rfl) (by kernel_rfl) (fun _ _ _ h => h) (yl_move (by rfl) _ (by rfl) _ (by rfl)) hH ?_
    change wpAnyH _ _ _ _ _ _ _ (Act.put _ (some 42) _) _
    simp only [Act.put, List.setIfInBounds_toArray, List.set_cons_zero, List.set_cons_succ]
    refine wpAnyH_take (i := 12) (v := (.agg BK)) rfl (by kernel_rfl) (by kernel_rfl) (by kernel_rfl) (fun _ _ _ h => h) (yl_load (by rfl) _ (by rfl) _ BK (by rfl) (fun W hS => ld_row ABk BZ.out (X2.out W hS))) hH ?_
    change wpAnyH _ _ _ _ _ _ _ (Act.put _ (some 43) _) _
    simp only [Act.put, List.setIfInBounds_toArray, List.set_cons_zero, List.set_cons_succ]
    refine wpAnyH_take (i := 14) (v := (.agg BR)) rfl (by kernel_rfl) (by kernel_rfl) (by kernel_rfl) (fun _ _ _ h => h) (yl_load (by rfl) _ (by rfl) _ BR (by rfl) (fun W hS => ld_row ABr RZ.out (X7.out W hS))) hH ?_
    change wpAnyH _ _ _ _ _ _ _ (Act.put _ (some 45) _) _
    simp only [Act.put, List.setIfInBounds_toArray, List.set_cons_zero, List.set_cons_succ]
    refine wpAnyH_ready (rs := [13]) (by kernel_rfl) (by simp) (AllReadyH.cons rfl (fun K1 hK1 => ?_) AllReadyH.nil)
    go_simp
    refine (HWH.out V2 (TL.out.below DV2.out) (TK.out.next DV2.out)).mono ?_
    rintro r V3 ⟨rfl, be⟩
    have DV3 := hide (below_next DV2.out be)
    clear be
    refine hK1.out _ _ DV3.out (fun hH => ?_)
    clear hK1
    refine wpAnyH_ready (rs := [15]) (by kernel_rfl) (by simp) (AllReadyH.cons rfl (fun K1 hK1 => ?_) AllReadyH.nil)
    go_simp
    refine (HRH.out V3 (TR.out.below DV3.out)).mono ?_
    rintro r V4 ⟨rfl, be⟩
    have DV4 := hide (below_next DV3.out be)
    clear be
    refine hK1.out _ _ DV4.out (fun hH => ?_)
    clear hK1
    refine wpAnyH_take (i := 16) (v := (.bool true)) rfl (by kernel_rfl) (by kernel_rfl) (by kernel_rfl) (fun _ _ _ h => h) (.inl ⟨by rfl, fun W _ => by go_simp⟩) hH ?_
    change wpAnyH _ _ _ _ _ _ _ (Act.put _ (some 47) _) _
    simp only [Act.put, List.setIfInBounds_toArray, List.set_cons_zero, List.set_cons_succ]
    refine wpAnyH_take (i := 17) (v := (.bool true)) rfl (by kernel_rfl) (by kernel_rfl) (by kernel_rfl) (fun _ _ _ h => h) (.inl ⟨by rfl, fun W _ => by go_simp⟩) hH ?_
    change wpAnyH _ _ _ _ _ _ _ (Act.put _ (some 48) _) _
    simp only [Act.put, List.setIfInBounds_toArray, List.set_cons_zero, List.set_cons_succ]
    refine wpAnyH_take (i := 18) (v := (.bool true)) rfl (by kernel_rfl) (by kernel_rfl) (by kernel_rfl) (fun _ _ _ h => h) (.inl ⟨by rfl, fun W _ => by go_simp⟩) hH ?_
    change wpAnyH _ _ _ _ _ _ _ (Act.put _ (some 4) _) _
    simp only [Act.put, List.setIfInBounds_toArray, List.set_cons_zero, List.set_cons_succ]
    refine wpAnyH_done (by kernel_rfl) ?_ _
    clear hH
    go_wp2
    go_ret
    exact ⟨rfl, below_next TB.out DV4.out⟩
  · have Q2 : Hid (W6.heap[w.heap.size]? = some (.cells (bkA h (.slice ao L.length cap)) 29 (0, 0))) := by show _ = _; rw [HC.out]; exact R2c.out
    have Q7 : Hid (W6.heap[g7]? = some (.cells (bkA h (.slice ai P.length ci)) 36 (0, 0))) := by show _ = _; rw [HCR.out]; exact R7c.out
    have F7 := hide (Rfr.setCells w.heap.size (hc RT).toList 33 W6)
    have F8 := hide (Rfr.setCells g7 (hc RT).toList 33 (W6.setCells w.heap.size 33 (hc RT).toList))
    have S2 : Hid ((W6.setCells w.heap.size 33 (hc RT).toList).heap[w.heap.size]? = some (.cells (bkA (h.with RT RL.out) (.slice ao L.length cap)) 29 (0, 0))) := by show _ = _; rw [TLs.out]; exact bkA_setR h _ RT RL.out Q2.out
    have S7 : Hid ((W6.setCells w.heap.size 33 (hc RT).toList).heap[g7]? = some (.cells (bkA h (.slice ai P.length ci)) 36 (0, 0))) := (F7.out.block _ (lt_heap Q7.out) (by have := G7.out; omega)).trans Q7.out
    have S5 : Hid ((W6.setCells w.heap.size 33 (hc RT).toList).heap[g5]? = some (.cells (hc RT) 24 (0, 0))) := (F7.out.block _ (lt_heap R5c.out) (by have := G5.out; omega)).trans R5c.out
    have S8 : Hid ((W6.setCells w.heap.size 33 (hc RT).toList).heap[g8]? = some (.cells (hc RT) 23 (0, 0))) := (F7.out.block _ (lt_heap R8.out) (by have := G7.out; have := G8.out; omega)).trans R8.out
    have S9 : Hid (((W6.setCells w.heap.size 33 (hc RT).toList).setCells g7 33 (hc RT).toList).heap[g7]? = some (.cells (bkA (h.with RT RL.out) (.slice ai P.length ci)) 36 (0, 0))) := by show (World.setCells _ g7 33 (hc RT).toList).heap[g7]? = _; rw [show (World.setCells (W6.setCells w.heap.size 33 (hc RT).toList) g7 33 (hc RT).toList) = World.setCells (W6.setCells w.heap.size 33 (hc RT).toList) g7 33 (cellsL RT) by rw [TLs.out]]; exact bkA_setR h _ RT RL.out S7.out
    have TB : Hid (Below w.heap.size w ((W6.setCells w.heap.size 33 (hc RT).toList).setCells g7 33 (hc RT).toList)) := below_sets (below_sets B6.out w.heap.size 33 _ (Nat.le_refl _)) g7 33 _ (Nat.le_of_lt G7.out)
    have T2 : Hid (((W6.setCells w.heap.size 33 (hc RT).toList).setCells g7 33 (hc RT).toList).heap[w.heap.size]? = some (.cells (bkA (h.with RT RL.out) (.slice ao L.length cap)) 29 (0, 0))) := (F8.out.block _ (lt_heap S2.out) (by have := G7.out; omega)).trans S2.out
    have T5 : Hid (((W6.setCells w.heap.size 33 (hc RT).toList).setCells g7 33 (hc RT).toList).heap[g5]? = some (.cells (hc RT) 24 (0, 0))) := (F8.out.block _ (lt_heap S5.out) (by have := G57.out; omega)).trans S5.out
    have T7 : Hid (((W6.setCells w.heap.size 33 (hc RT).toList).setCells g7 33 (hc RT).toList).heap[g7]? = some (.cells (bkA (h.with RT RL.out) (.slice ai P.length ci)) 36 (0, 0))) := S9
    have T8 : Hid (((W6.setCells w.heap.size 33 (hc RT).toList).setCells g7 33 (hc RT).toList).heap[g8]? = some (.cells (hc RT) 23 (0, 0))) := (F8.out.block _ (lt_heap S8.out) (by have := G8.out; omega)).trans S8.out
    have TR : Hid (LQr ((W6.setCells w.heap.size 33 (hc RT).toList).setCells g7 33 (hc RT).toList) (.slice ai P.length ci) P) := FR6.out _ (fun k h1 h2 => (F8.out.block _ (Nat.lt_of_lt_of_le (Nat.lt_trans h2 (lt_heap Q7.out)) F7.out.size) (by omega)).trans (F7.out.block _ (Nat.lt_trans h2 (lt_heap Q7.out)) h1))
    have TL := hide (HL.out _ TB.out)
    have TK := hide (KS.out _ TB.out)
    have HWH := hide (fun W l q => HW.out (h.with RT RL.out) W l q)
    have HRH := hide (fun W l => HRW.out (h.with RT RL.out) W P (.slice ai P.length ci) MP.out l)
    have BZ := hide (bkA_size (h.with RT RL.out) (.slice ao L.length cap))
    have RZ := hide (bkA_size (h.with RT RL.out) (.slice ai P.length ci))
    go_upto_region 6 with ((with_reducible refine at_list ?_); first | refine wpList_loadS A24 _ rfl g8 rfl (hc RT) DZ.out 23 R8.out (by rfl) ?_ | refine wpList_store_mid rfl 24 _ _ rfl w.heap.size 33 (hc RT) rfl rfl (by rw [DZ.out]; exact bkA_there Q2.out 33 32 (by omega)) (by rw [DZ.out]; kernel_rfl) (hc_one _) ?_)
    go_upto_region 7 with ((with_reducible refine at_list ?_); first | refine wpList_loadS A24 _ rfl g8 rfl (hc RT) DZ.out 23 S8.out (by rfl) ?_ | refine wpList_store_mid rfl 23 _ _ rfl g7 33 (hc RT) rfl rfl (by rw [DZ.out]; exact bkA_there S7.out 33 32 (by omega)) (by rw [DZ.out]; kernel_rfl) (hc_one _) ?_)
    clear Q2 Q7 F7 F8 S2 S7 S5 S8 S9
    generalize (W6.setCells w.heap.size 33 (hc RT).toList).setCells g7 33 (hc RT).toList = W9 at *
    generalize h.with RT RL.out = hh at *
    clear HL KS HW HRW MP HC HCR CZ KZ KA2 CT FR6 RL TLs R2c R5c R7c R8 B6
    generalize bkA (hh) (.slice ao L.length cap) = BK at *
    generalize bkA (hh) (.slice ai P.length ci) = BR at *
    generalize whB (hh) L = WB at *
    have X2 : Hid (∀ W, Below W9.heap.size W9 W → W.heap[w.heap.size]? = some (.cells BK 29 (0, 0))) := fun W b => (b.block _ (lt_heap T2.out)).trans T2.out
    have X5 : Hid (∀ W, Below W9.heap.size W9 W → W.heap[g5]? = some (.cells (hc RT) 24 (0, 0))) := fun W b => (b.block _ (lt_heap T5.out)).trans T5.out
    have X7 : Hid (∀ W, Below W9.heap.size W9 W → W.heap[g7]? = some (.cells BR 36 (0, 0))) := fun W b => (b.block _ (lt_heap T7.out)).trans T7.out
    have X8 : Hid (∀ W, Below W9.heap.size W9 W → W.heap[g8]? = some (.cells (hc RT) 23 (0, 0))) := fun W b => (b.block _ (lt_heap T8.out)).trans T8.out
    have DV1 := hide ((Below.refl W9.heap.size W9).drew)
    refine wp_region_held_drew (S := fun W => Below W9.heap.size W9 W) (by kernel_rfl) DV1.out (fun hH => ?_)
    generalize hWd : W9.drew = V1 at *
    clear hWd
    have ht1 : (MU == MU) = true := by simp
    have ht2 : (WB == WB) = true := by simp
    refine wpAnyH_ready (rs := [0]) (by kernel_rfl) (by simp) (AllReadyH.cons rfl (fun K1 hK1 => ?_) AllReadyH.nil)
    go_simp
    refine (awake11 V1 (TK.out.next DV1.out)).mono ?_
    rintro r V2 ⟨rfl, be⟩
    have DV2 := hide (below_next DV1.out be)
    clear be
    refine hK1.out _ _ DV2.out (fun hH => ?_)
    clear hK1
    refine wpAnyH_take (i := 1) (v := (.bool true)) rfl (by kernel_rfl) (by kernel_rfl) (by kernel_rfl) (fun _ _ _ h => h) (yl_move (by rfl) _ (by rfl) _ (by rfl)) hH ?_
    change wpAnyH _ _ _ _ _ _ _ (Act.put _ (some 32) _) _
    simp only [Act.put, List.setIfInBounds_toArray, List.set_cons_zero, List.set_cons_succ]
    refine wpAnyH_take (i := 2) (v := (.agg (hc RT))) rfl (by kernel_rfl) (by kernel_rfl) (by kernel_rfl) (fun _ _ _ h => h) (yl_load (by rfl) _ (by rfl) _ (hc RT) (by rfl) (fun W hS => ld_row A25 DZ.out (X5.out W hS))) hH ?_
    change wpAnyH _ _ _ _ _ _ _ (Act.put _ (some 33) _) _
    simp only [Act.put, List.setIfInBounds_toArray, List.set_cons_zero, List.set_cons_succ]
    refine wpAnyH_take (i := 3) (v := (.agg (hc RT))) rfl (by kernel_rfl) (by kernel_rfl) (by kernel_rfl) (fun _ _ _ h => h) (yl_load (by rfl) _ (by rfl) _ (hc RT) (by rfl) (fun W hS => ld_row A24 DZ.out (X8.out W hS))) hH ?_
    change wpAnyH _ _ _ _ _ _ _ (Act.put _ (some 34) _) _
    simp only [Act.put, List.setIfInBounds_toArray, List.set_cons_zero, List.set_cons_succ]
    refine wpAnyH_take (i := 4) (v := (.bool true)) rfl (by kernel_rfl) (by kernel_rfl) (by kernel_rfl) (fun _ _ _ h => h) (yl_eqlB (by rfl) 24 _ _ _ (by rfl) (hc RT) (hc RT) (by rfl) (by rfl) GH true EI.out) hH ?_
    change wpAnyH _ _ _ _ _ _ _ (Act.put _ (some 35) _) _
    simp only [Act.put, List.setIfInBounds_toArray, List.set_cons_zero, List.set_cons_succ]
    refine wpAnyH_take (i := 5) (v := (.bool true)) rfl (by kernel_rfl) (by kernel_rfl) (by kernel_rfl) (fun _ _ _ h => h) (.inl ⟨by rfl, fun W _ => by go_simp⟩) hH ?_
    change wpAnyH _ _ _ _ _ _ _ (Act.put _ (some 36) _) _
    simp only [Act.put, List.setIfInBounds_toArray, List.set_cons_zero, List.set_cons_succ]
    refine wpAnyH_take (i := 6) (v := (.bool true)) rfl (by kernel_rfl) (by kernel_rfl) (by kernel_rfl) (fun _ _ _ h => h) (yl_move (by rfl) _ (by rfl) _ (by rfl)) hH ?_
    change wpAnyH _ _ _ _ _ _ _ (Act.put _ (some 37) _) _
    simp only [Act.put, List.setIfInBounds_toArray, List.set_cons_zero, List.set_cons_succ]
    refine wpAnyH_take (i := 7) (v := (.bool MU)) rfl (by kernel_rfl) (by kernel_rfl) (by kernel_rfl) (fun _ _ _ h => h) (yl_move (by rfl) _ (by rfl) _ (by rfl)) hH ?_
    change wpAnyH _ _ _ _ _ _ _ (Act.put _ (some 38) _) _
    simp only [Act.put, List.setIfInBounds_toArray, List.set_cons_zero, List.set_cons_succ]
    refine wpAnyH_take (i := 8) (v := (.bool MU)) rfl (by kernel_rfl) (by kernel_rfl) (by kernel_rfl) (fun _ _ _ h => h) (yl_move (by rfl) _ (by rfl) _ (by rfl)) hH ?_
    change wpAnyH _ _ _ _ _ _ _ (Act.put _ (some 39) _) _
    simp only [Act.put, List.setIfInBounds_toArray, List.set_cons_zero, List.set_cons_succ]
    refine wpAnyH_take (i := 9) (v := (.bool true)) rfl (by kernel_rfl) (by kernel_rfl) (by kernel_rfl) (fun _ _ _ h => h) (.inl ⟨by rfl, fun W _ => by go_simp⟩) hH ?_
    change wpAnyH _ _ _ _ _ _ _ (Act.put _ (some 40) _) _
    simp only [Act.put, List.setIfInBounds_toArray, List.set_cons_zero, List.set_cons_succ]
    refine wpAnyH_take (i := 10) (v := (.bool true)) rfl (by kernel_rfl) (by kernel_rfl) (by kernel_rfl) (fun _ _ _ h => h) (.inl ⟨by rfl, fun W _ => by go_simp⟩) hH ?_
    change wpAnyH _ _ _ _ _ _ _ (Act.put _ (some 41) _) _
    simp only [Act.put, List.setIfInBounds_toArray, List.set_cons_zero, List.set_cons_succ]
    refine wpAnyH_take (i := 11) (v := (.bool true)) rfl (by kernel_rfl) (by kernel_rfl) (by kernel_rfl) (fun _ _ _ h => h) (yl_move (by rfl) _ (by rfl) _ (by rfl)) hH ?_
    change wpAnyH _ _ _ _ _ _ _ (Act.put _ (some 42) _) _
    simp only [Act.put, List.setIfInBounds_toArray, List.set_cons_zero, List.set_cons_succ]
    refine wpAnyH_take (i := 12) (v := (.agg BK)) rfl (by kernel_rfl) (by kernel_rfl) (by kernel_rfl) (fun _ _ _ h => h) (yl_load (by rfl) _ (by rfl) _ BK (by rfl) (fun W hS => ld_row ABk BZ.out (X2.out W hS))) hH ?_
    change wpAnyH _ _ _ _ _ _ _ (Act.put _ (some 43) _) _
    simp only [Act.put, List.setIfInBounds_toArray, List.set_cons_zero, List.set_cons_succ]
    refine wpAnyH_take (i := 14) (v := (.agg BR)) rfl (by kernel_rfl) (by kernel_rfl) (by kernel_rfl) (fun _ _ _ h => h) (yl_load (by rfl) _ (by rfl) _ BR (by rfl) (fun W hS => ld_row ABr RZ.out (X7.out W hS))) hH ?_
    change wpAnyH _ _ _ _ _ _ _ (Act.put _ (some 45) _) _
    simp only [Act.put, List.setIfInBounds_toArray, List.set_cons_zero, List.set_cons_succ]
    refine wpAnyH_ready (rs := [13]) (by kernel_rfl) (by simp) (AllReadyH.cons rfl (fun K1 hK1 => ?_) AllReadyH.nil)
    go_simp
    refine (HWH.out V2 (TL.out.below DV2.out) (TK.out.next DV2.out)).mono ?_
    rintro r V3 ⟨rfl, be⟩
    have DV3 := hide (below_next DV2.out be)
    clear be
    refine hK1.out _ _ DV3.out (fun hH => ?_)
    clear hK1
    refine wpAnyH_ready (rs := [15]) (by kernel_rfl) (by simp) (AllReadyH.cons rfl (fun K1 hK1 => ?_) AllReadyH.nil)
    go_simp
    refine (HRH.out V3 (TR.out.below DV3.out)).mono ?_
    rintro r V4 ⟨rfl, be⟩
    have DV4 := hide (below_next DV3.out be)
    clear be
    refine hK1.out _ _ DV4.out (fun hH => ?_)
    clear hK1
    refine wpAnyH_take (i := 16) (v := (.bool true)) rfl (by kernel_rfl) (by kernel_rfl) (by kernel_rfl) (fun _ _ _ h => h) (.inl ⟨by rfl, fun W _ => by go_simp⟩) hH ?_
    change wpAnyH _ _ _ _ _ _ _ (Act.put _ (some 47) _) _
    simp only [Act.put, List.setIfInBounds_toArray, List.set_cons_zero, List.set_cons_succ]
    refine wpAnyH_take (i := 17) (v := (.bool true)) rfl (by kernel_rfl) (by kernel_rfl) (by kernel_rfl) (fun _ _ _ h => h) (.inl ⟨by rfl, fun W _ => by go_simp⟩) hH ?_
    change wpAnyH _ _ _ _ _ _ _ (Act.put _ (some 48) _) _
    simp only [Act.put, List.setIfInBounds_toArray, List.set_cons_zero, List.set_cons_succ]
    refine wpAnyH_take (i := 18) (v := (.bool true)) rfl (by kernel_rfl) (by kernel_rfl) (by kernel_rfl) (fun _ _ _ h => h) (.inl ⟨by rfl, fun W _ => by go_simp⟩) hH ?_
    change wpAnyH _ _ _ _ _ _ _ (Act.put _ (some 4) _) _
    simp only [Act.put, List.setIfInBounds_toArray, List.set_cons_zero, List.set_cons_succ]
    refine wpAnyH_done (by kernel_rfl) ?_ _
    clear hH
    go_wp2
    go_ret
    exact ⟨rfl, below_next TB.out DV4.out⟩
end
end Go.Proofs.YtdkemnjkhclbkaaDoor
