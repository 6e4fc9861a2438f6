/- What a message's parts are read by: an address without its time. What a message's parts are read by: an address with its time. -/
import Derived.Test.YtkoidjaaojmcnaaGreatM40
import Derived.Test.YtkoidjaaojmcnaaGreatM09
namespace Go.Proofs.YtkoidjaaojmcnaaGreat
open Go.RowKit
open Go.Deep
set_option linter.unusedVariables false
set_option linter.unusedSimpArgs false
section
variable {w : World} {b : Nat} {t : ByteArray} {Y : List UInt8}
set_option maxRecDepth 10000
set_option maxHeartbeats 4000000
theorem Rfr.via {b g : Nat} {w W1 W2 : World} (h : Rfr b w W1) (f : Rfr g W1 W2) (hg : w.heap.size ≤ g) : Rfr b w W2 := ⟨f.os.trans h.os, f.tape.trans h.tape, f.output.trans h.output, Nat.le_trans h.size f.size, fun k hk hb => (f.block k (Nat.lt_of_lt_of_le hk h.size) (by omega)).trans (h.block k hk hb)⟩
theorem Gr.via {W1 W2 : World} {b g : Nat} {t : ByteArray} {R : List UInt8} (h : Gr W1 b t R) (f : Rfr g W1 W2) (hg : b ≠ g) : Gr W2 b t R := by
  obtain ⟨n, h1, h2, h3⟩ := h
  exact ⟨n, h1, h2, (f.block b h3.lt hg).trans h3⟩
theorem Nt.setPort (x : Nt) (a : Int) : (([Value.int .u32 0, Value.int .u64 (x.serv.toNat : Int)] ++ (cellsL x.ip ++ [Value.int .u16 a])).toArray).setIfInBounds 18 (.int .u16 (x.port.toNat : Int)) = ({ x with time := 0 } : Nt).cells.toArray := by
  have hl : ([Value.int .u32 0, Value.int .u64 (x.serv.toNat : Int)] ++ cellsL x.ip).length = 18 := by simp [cellsL_len, x.hip]
  rw [List.setIfInBounds_toArray, ← List.append_assoc, List.set_append_right _ _ (by omega), hl]
  simp [Nt.cells]
theorem Nt.atPort (x : Nt) (a : Int) : (([Value.int .u32 0, Value.int .u64 (x.serv.toNat : Int)] ++ (cellsL x.ip ++ [Value.int .u16 a])).toArray)[18]? = some (.int .u16 a) := by
  have hl : ([Value.int .u32 0, Value.int .u64 (x.serv.toNat : Int)] ++ cellsL x.ip).length = 18 := by simp [cellsL_len, x.hip]
  rw [List.getElem?_toArray, ← List.append_assoc, List.getElem?_append_right (by omega), hl]
  rfl
theorem net_on (x : Nt) (h : Gr w b t (x.bytes ++ Y)) (hs : t.size ≤ maxLen) : Calls Tryz.prog 111 #[pv b t] w fun e w' => e = .returned (.agg ({ x with time := 0 } : Nt).cells.toArray) ∧ Gr w' b t Y ∧ Rfr b w w' := by
  have hlt := h.lt
  obtain ⟨r1, r2, r3⟩ := blk3 w (.cells #[.pointer (some ⟨b, 0, none⟩), .string t] 85) (.cells zN.cells.toArray 27) (.cells zN.cells.toArray 27)
  have b3 := below3 w (.cells #[.pointer (some ⟨b, 0, none⟩), .string t] 85) (.cells zN.cells.toArray 27) (.cells zN.cells.toArray 27)
  have h0 := h.below b3
  have F0 := hide (Rfr.below (b := b) b3)
  unfold Nt.bytes at h0
  simp only [List.append_assoc] at h0
  have c0 : (((w.alloc (.cells #[.pointer (some ⟨b, 0, none⟩), .string t] 85)).alloc (.cells zN.cells.toArray 27)).alloc (.cells zN.cells.toArray 27)).cell? ⟨w.heap.size, 0, none⟩ = some (.pointer (some ⟨b, 0, none⟩)) := by rw [cell_of_row _ _ _ _ _ _ r1]; rfl
  have HU := hide (h0.u64 x.serv.toNat x.serv.toNat_lt hs)
  have HI : Hid (∀ W, Gr W b t (x.ip ++ ((lowL x.port.toNat 2).reverse ++ Y)) → Calls Tryz.prog 87 #[.pointer (some ⟨b, 0, none⟩), .int .i64 16] W fun e w' => e = .returned (.string (txt x.ip)) ∧ Gr w' b t ((lowL x.port.toNat 2).reverse ++ Y) ∧ Rfr b W w') := fun W g => by
    have := g.bytes x.ip hs (by rw [x.hip]; decide)
    rw [x.hip] at this
    exact this
  have HP : Hid (∀ W, Gr W b t ((lowL x.port.toNat 2).reverse ++ Y) → Calls Tryz.prog 125 #[.pointer (some ⟨b, 0, none⟩)] W fun e w' => e = .returned (.int .u16 (x.port.toNat : Int)) ∧ Gr w' b t Y ∧ Rfr b W w') := fun W g => g.big x.port.toNat x.port.toNat_lt hs
  have R1 := hide r1
  have R2 := hide r2
  have R3 := hide r3
  have HLT := hide hlt
  clear h hs hlt r1 r2 r3 b3 h0
  unfold pv
  go_enter Tryz.func111, Tryz.ntmps111
  go_upto_region 2 with (with_reducible refine at_list ?_; refine wpList_allocA AN rfl rfl ?_)
  simp only [Act.put, List.setIfInBounds_toArray, List.set_cons_zero, List.set_cons_succ]
  simp
  generalize ((w.alloc (.cells #[.pointer (some ⟨b, 0, none⟩), .string t] 85)).alloc (.cells zN.cells.toArray 27)).alloc (.cells zN.cells.toArray 27) = A at *
  have HW : Hid (∀ W, Rfr b A W → W.heap[w.heap.size]? = some (.cells #[.pointer (some ⟨b, 0, none⟩), .string t] 85) ∧ W.heap[w.heap.size + 1]? = some (.cells zN.cells.toArray 27) ∧ W.heap[w.heap.size + 1 + 1]? = some (.cells zN.cells.toArray 27) ∧ W.cell? ⟨w.heap.size + 1 + 1, 1, none⟩ = some (.int .u64 0) ∧ W.frozen? ⟨w.heap.size + 1 + 1, 1, none⟩ = false) := fun W f => by
    have hl := HLT.out
    have q1 := (f.block _ (lt_heap R1.out) (by omega)).trans R1.out
    have q2 := (f.block _ (lt_heap R2.out) (by omega)).trans R2.out
    have q3 := (f.block _ (lt_heap R3.out) (by omega)).trans R3.out
    exact ⟨q1, q2, q3, by rw [cell_of_row _ _ _ _ _ _ q3]; rfl, frozen_of_row W (w.heap.size + 1 + 1) 1 _ _ q3⟩
  go_upto_region 3 with (go_at_call 77; with_reducible refine HU.out.mono ?_; rintro e W1 ⟨rfl, g1, f1⟩; have G1 := hide g1; have F1 := hide f1; obtain ⟨q1, q2, q3, cs, fs⟩ := HW.out W1 f1; clear g1 f1)
  have fa := Rfr.setCell (w.heap.size + 1 + 1) W1 1 (.int .u64 (x.serv.toNat : Int))
  have hl := HLT.out
  have v1 := (fa.block _ (lt_heap q1) (by omega)).trans q1
  have v2 := (fa.block _ (lt_heap q2) (by omega)).trans q2
  have v3 : (W1.setCell ⟨w.heap.size + 1 + 1, 1, none⟩ (.int .u64 (x.serv.toNat : Int))).heap[w.heap.size + 1 + 1]? = some (.cells ([Value.int .u32 0, Value.int .u64 (x.serv.toNat : Int)] ++ (cellsL zN.ip ++ [Value.int .u16 0])).toArray 27 (0, 0)) := (heap_setCell_same _ _ _ _ _ _ q3).trans rfl
  have GV := hide (G1.out.via fa (by omega))
  have FV := hide ((F0.out.trans F1.out).via fa (by omega))
  generalize W1.setCell ⟨w.heap.size + 1 + 1, 1, none⟩ (.int .u64 (x.serv.toNat : Int)) = V at *
  have d1 : V.drew.heap[w.heap.size]? = _ := v1
  have d2 : V.drew.heap[w.heap.size + 1]? = _ := v2
  have d3 : V.drew.heap[w.heap.size + 1 + 1]? = _ := v3
  have GD : Hid (Gr V.drew b t (x.ip ++ ((lowL x.port.toNat 2).reverse ++ Y))) := GV
  have FD := hide (FV.out.trans (Rfr.drew b V))
  have V1' := hide d1
  clear cs fs q1 q2 q3 c0 HU v1 v2 v3 fa GV FV
  refine wp_region_held_drew (S := fun W => W.heap[w.heap.size]? = some (.cells #[.pointer (some ⟨b, 0, none⟩), .string t] 85)) (by kernel_rfl) V1'.out (fun hH => ?_)
  generalize hWd : V.drew = W2 at *
  clear hWd
  have CC : Hid (∀ W : World, W.heap[w.heap.size]? = some (.cells #[.pointer (some ⟨b, 0, none⟩), .string t] 85) → W.cell? ⟨w.heap.size, 0, none⟩ = some (.pointer (some ⟨b, 0, none⟩))) := fun W h => by rw [cell_of_row _ _ _ _ _ _ h]; rfl

  refine wpAnyH_take (i := 0) (v := (.pointer (some ⟨w.heap.size + 1 + 1, 2, none⟩))) rfl (by kernel_rfl) (by kernel_rfl) (by kernel_rfl) (fun _ _ _ h => h) (.inl ⟨by rfl, fun W _ => by go_simp⟩) hH ?_
  change wpAnyH _ _ _ _ _ _ _ (Act.put _ (some 8) _) _
  simp only [Act.put, List.setIfInBounds_toArray, List.set_cons_zero, List.set_cons_succ]
  refine wpAnyH_take (i := 1) (v := (.slice (some ⟨w.heap.size + 1 + 1, 2, none⟩) 16 16)) rfl (by kernel_rfl) (by kernel_rfl) (by kernel_rfl) (fun _ _ _ h => h) (.inl ⟨by rfl, fun W _ => by go_simp⟩) hH ?_
  change wpAnyH _ _ _ _ _ _ _ (Act.put _ (some 9) _) _
  simp only [Act.put, List.setIfInBounds_toArray, List.set_cons_zero, List.set_cons_succ]
  refine wpAnyH_take (i := 2) (v := (.pointer (some ⟨w.heap.size, 0, none⟩))) rfl (by kernel_rfl) (by kernel_rfl) (by kernel_rfl) (fun _ _ _ h => h) (.inl ⟨by rfl, fun W _ => by go_simp⟩) hH ?_
  change wpAnyH _ _ _ _ _ _ _ (Act.put _ (some 10) _) _
  simp only [Act.put, List.setIfInBounds_toArray, List.set_cons_zero, List.set_cons_succ]
  refine wpAnyH_take (i := 3) (v := (.pointer (some ⟨b, 0, none⟩))) rfl (by kernel_rfl) (by kernel_rfl) (by kernel_rfl) (fun _ _ _ h => h) (.inl ⟨by rfl, fun W hS => by have c4 := CC.out W hS; go_simp⟩) hH ?_
  change wpAnyH _ _ _ _ _ _ _ (Act.put _ (some 11) _) _
  simp only [Act.put, List.setIfInBounds_toArray, List.set_cons_zero, List.set_cons_succ]
  refine wpAnyH_ready (rs := [4]) (by kernel_rfl) (by simp) (AllReadyH.cons rfl (fun K1 hK1 => ?_) AllReadyH.nil)
  go_simp
  with_reducible refine (HI.out W2 GD.out).mono ?_
  rintro e W3 ⟨rfl, g1, f1⟩
  have G3 := hide g1
  have F3 := hide (FD.out.trans f1)
  have y1 := (f1.block _ (lt_heap d1) (by omega)).trans d1
  have y2 := (f1.block _ (lt_heap d2) (by omega)).trans d2
  have y3 := (f1.block _ (lt_heap d3) (by omega)).trans d3
  refine hK1.out _ _ y1 (fun hH => ?_)
  clear hK1 g1 f1 d1 d2 d3
  have th : W3.there (w.heap.size + 1 + 1) 2 16 := fun j hj => by
    refine ⟨?_, frozen_of_row W3 _ _ _ _ y3⟩
    rw [cell_of_row _ _ _ _ _ _ y3, List.getElem?_toArray, List.getElem?_eq_getElem (by simp [cellsL_len, zN]; omega)]
    rfl
  have hcp := copy16 W3 (w.heap.size + 1 + 1) 2 x.ip x.hip th
  have fb := Rfr.setCells (w.heap.size + 1 + 1) (cellsL x.ip) 2 W3
  have z1 := (fb.block _ (lt_heap y1) (by omega)).trans y1
  have z2 := (fb.block _ (lt_heap y2) (by omega)).trans y2
  have z3 := row_setCells [Value.int .u16 0] (w.heap.size + 1 + 1) 27 (cellsL x.ip) (cellsL zN.ip) [Value.int .u32 0, Value.int .u64 (x.serv.toNat : Int)] W3 y3 (by rw [cellsL_len, cellsL_len, x.hip, zN.hip])
  have G4 := hide (G3.out.via fb (by omega))
  have F4 := hide (F3.out.via fb (by omega))
  refine wpAnyH_ready (rs := [5]) (by kernel_rfl) (by simp) (AllReadyH.cons rfl (fun K1 hK1 => ?_) AllReadyH.nil)
  go_simp
  refine hK1.out _ _ z1 (fun hH => ?_)
  clear hK1 hcp th
  refine wpAnyH_done (by kernel_rfl) ?_ _
  have Z1 := hide z1
  have Z2 := hide z2
  have Z3 := hide z3
  clear z1 z2 z3 fb y1 y2 y3 hH G3 F3 GD FD HI
  generalize W3.setCells (w.heap.size + 1 + 1) 2 (cellsL x.ip) = W4 at *
  have c5 := CC.out W4 Z1.out
  have HV : Hid (∀ W, Rfr b W4 W → W.heap[w.heap.size + 1]? = some (.cells zN.cells.toArray 27) ∧ W.heap[w.heap.size + 1 + 1]? = some (.cells ([Value.int .u32 0, Value.int .u64 (x.serv.toNat : Int)] ++ (cellsL x.ip ++ [Value.int .u16 0])).toArray 27 (0, 0)) ∧ W.cell? ⟨w.heap.size + 1 + 1, 18, none⟩ = some (.int .u16 0) ∧ W.frozen? ⟨w.heap.size + 1 + 1, 18, none⟩ = false) := fun W f => by
    have hl := HLT.out
    have q2 := (f.block _ (lt_heap Z2.out) (by omega)).trans Z2.out
    have q3 := (f.block _ (lt_heap Z3.out) (by omega)).trans Z3.out
    exact ⟨q2, q3, by rw [cell_of_row _ _ _ _ _ _ q3]; exact x.atPort 0, frozen_of_row W (w.heap.size + 1 + 1) 18 _ _ q3⟩
  go_upto_region 5 with (go_at_call 125; with_reducible refine (HP.out W4 G4.out).mono ?_; rintro e W5 ⟨rfl, g1, f1⟩; have G5 := hide g1; have F5 := hide f1; obtain ⟨q2, q3, cs, fs⟩ := HV.out W5 f1; clear g1 f1)
  have fc := Rfr.setCell (w.heap.size + 1 + 1) W5 18 (.int .u16 (x.port.toNat : Int))
  have U2 := hide ((fc.block _ (lt_heap q2) (by omega)).trans q2)
  have u3 := heap_setCell_same W5 (w.heap.size + 1 + 1) 18 _ _ (.int .u16 (x.port.toNat : Int)) q3
  rw [x.setPort 0] at u3
  have U3 := hide u3
  have G6 := hide (G5.out.via fc (by omega))
  have F6 := hide ((F4.out.trans F5.out).via fc (by omega))
  have HSX : Hid (({ x with time := 0 } : Nt).cells.toArray.size = 19) := show _ = _ from by rw [List.size_toArray, Nt.len]
  have HSZ : Hid (zN.cells.toArray.size = 19) := show _ = _ from by rw [List.size_toArray, Nt.len]
  have HOX : Hid (({ x with time := 0 } : Nt).cells.toArray.all (·.oneCell') = true) := Nt.all _
  clear cs fs q2 q3 c5 fc u3 HP HV G4 F4 Z1 Z2 Z3 CC
  generalize W5.setCell ⟨w.heap.size + 1 + 1, 18, none⟩ (.int .u16 (x.port.toNat : Int)) = W6 at *
  generalize hC : ({ x with time := 0 } : Nt).cells.toArray = C at *
  have HC := hide hC
  clear hC
  generalize zN.cells.toArray = Z at *
  go_wp2_with (with_reducible refine at_list ?_; first | refine wpList_loadS AN _ rfl (w.heap.size + 1 + 1) rfl C HSX.out 27 U3.out rfl ?_ | refine wpList_storeA AN rfl _ _ rfl (w.heap.size + 1) C HSX.out HOX.out rfl rfl Z HSZ.out 27 U2.out ?_)
  refine bodyPost_ret (resA AN rfl _ _ _ _ C HSX.out rfl (setRow_heap _ _ _ _ _ _ U2.out)) rfl ?_
  exact ⟨by rw [HC.out], G6.out.setRow _ (by omega) _, F6.out.setRow _ (by omega) _⟩
end
end Go.Proofs.YtkoidjaaojmcnaaGreat
namespace Go.Proofs.YtkoidjaaojmcnaaGreat
open Go.RowKit
open Go.Deep
set_option linter.unusedVariables false
set_option linter.unusedSimpArgs false
section
variable {w : World} {b : Nat} {t : ByteArray} {Y : List UInt8}
set_option maxRecDepth 10000
set_option maxHeartbeats 4000000
theorem Nt.setTime (x : Nt) : (({ x with time := 0 } : Nt).cells.toArray).setIfInBounds 0 (.int .u32 (x.time.toNat : Int)) = x.cells.toArray := by
  rw [List.setIfInBounds_toArray]
  rfl
theorem address_on (x : Nt) (h : Gr w b t (lowL x.time.toNat 4 ++ (x.bytes ++ Y))) (hs : t.size ≤ maxLen) : Calls Tryz.prog 79 #[pv b t] w fun e w' => e = .returned (.agg x.cells.toArray) ∧ Gr w' b t Y ∧ Rfr b w w' := by
  have hlt := h.lt
  have e1 := heap_alloc_last w (.cells #[.pointer (some ⟨b, 0, none⟩), .string t] 85)
  have q1 := (Below.heap_alloc _ (.cells zN.cells.toArray 27) _ (lt_heap e1)).trans e1
  have q2 := heap_alloc_last (w.alloc (.cells #[.pointer (some ⟨b, 0, none⟩), .string t] 85)) (.cells zN.cells.toArray 27)
  have sz1 : (w.alloc (.cells #[.pointer (some ⟨b, 0, none⟩), .string t] 85)).heap.size = w.heap.size + 1 := by simp
  rw [sz1] at q2
  have b2 := ((Below.refl w.heap.size w).alloc (Nat.le_refl _) (.cells #[.pointer (some ⟨b, 0, none⟩), .string t] 85)).alloc (by simp) (.cells zN.cells.toArray 27)
  have h0 := h.below b2
  have F0 := hide (Rfr.below (b := b) b2)
  have SZ0 := hide b2.size
  have HU := hide (h0.u32 x.time.toNat x.time.toNat_lt hs)
  have HN : Hid (∀ W, Gr W b t (x.bytes ++ Y) → Calls Tryz.prog 111 #[.agg #[.pointer (some ⟨b, 0, none⟩), .string t]] W fun e w' => e = .returned (.agg ({ x with time := 0 } : Nt).cells.toArray) ∧ Gr w' b t Y ∧ Rfr b W w') := fun W g => net_on x g hs
  have c0 : ((w.alloc (.cells #[.pointer (some ⟨b, 0, none⟩), .string t] 85)).alloc (.cells zN.cells.toArray 27)).cell? ⟨w.heap.size, 0, none⟩ = some (.pointer (some ⟨b, 0, none⟩)) := by rw [cell_of_row _ _ _ _ _ _ q1]; rfl
  have R1 := hide q1
  have R2 := hide q2
  have HLT := hide hlt
  have ST := hide x.setTime
  have HSX : Hid (x.cells.toArray.size = 19) := show _ = _ from by rw [List.size_toArray, Nt.len]
  have HS0 : Hid (({ x with time := 0 } : Nt).cells.toArray.size = 19) := show _ = _ from by rw [List.size_toArray, Nt.len]
  have HSZ : Hid (zN.cells.toArray.size = 19) := show _ = _ from by rw [List.size_toArray, Nt.len]
  have HOX : Hid (x.cells.toArray.all (·.oneCell') = true) := Nt.all _
  have HO0 : Hid (({ x with time := 0 } : Nt).cells.toArray.all (·.oneCell') = true) := Nt.all _
  have C00 : Hid (({ x with time := 0 } : Nt).cells.toArray[0]? = some (.int .u32 0)) := rfl
  clear h hs hlt e1 q1 q2 b2 h0
  unfold pv
  go_enter Tryz.func79, Tryz.ntmps79
  go_upto_region 1 with (with_reducible refine at_list ?_; refine wpList_allocA AN rfl rfl ?_)
  try rw [sz1]
  clear sz1
  generalize (w.alloc (.cells #[.pointer (some ⟨b, 0, none⟩), .string t] 85)).alloc (.cells zN.cells.toArray 27) = A at *
  go_upto_region 2 with (go_at_call 82; with_reducible refine HU.out.mono ?_; rintro e W1 ⟨rfl, g1, f1⟩; have G1 := hide g1; have F1 := hide f1; clear g1 f1)
  have Y1 := hide ((F1.out.block _ (lt_heap R1.out) (by have := HLT.out; omega)).trans R1.out)
  have Y2 := hide ((F1.out.block _ (lt_heap R2.out) (by have := HLT.out; omega)).trans R2.out)
  have FA := hide (F0.out.trans F1.out)
  clear c0 HU R1 R2 F0
  generalize hC0 : ({ x with time := 0 } : Nt).cells.toArray = C0 at *
  clear hC0
  generalize hC : x.cells.toArray = C at *
  have HC := hide hC
  clear hC
  generalize hZ : zN.cells.toArray = Z at *
  clear hZ
  go_upto_region 3 with (first | (go_at_call 111; with_reducible refine (HN.out W1 G1.out).mono ?_; rintro e W2 ⟨rfl, g2, f2⟩; have G2 := hide g2; have F2 := hide f2; clear g2 f2) | (with_reducible refine at_list ?_; first | refine wpList_loadS APa _ rfl w.heap.size rfl #[.pointer (some ⟨b, 0, none⟩), .string t] rfl 85 Y1.out rfl ?_ | refine wpList_allocA AN rfl rfl ?_ | refine wpList_store_newA AN rfl _ _ rfl _ rfl C0 HS0.out HO0.out rfl rfl ?_))
  have b3 := (Below.refl W2.heap.size W2).alloc (Nat.le_refl _) (.cells C0 27)
  have r4 := heap_alloc_last W2 (.cells C0 27)
  have z2 := (F2.out.block _ (lt_heap Y2.out) (by have := HLT.out; omega)).trans Y2.out
  have GG := hide (And.intro (lt_heap z2) HLT.out)
  have Z2 := hide ((b3.block _ (lt_heap z2)).trans z2)
  have G3 := hide (G2.out.below b3)
  have F3 := hide ((FA.out.trans F2.out).trans (Rfr.below (b := b) b3))
  have R4 := hide r4
  clear b3 r4 z2 Y1 Y2 G1 G2 F1 F2 FA HN
  generalize W2.alloc (.cells C0 27) = W3 at *
  generalize W2.heap.size = g4 at *
  have c3 : W3.cell? ⟨g4, 0, none⟩ = some (.int .u32 0) := by rw [cell_of_row _ _ _ _ _ _ R4.out]; exact C00.out
  have f3 : W3.frozen? ⟨g4, 0, none⟩ = false := frozen_of_row W3 _ _ _ _ R4.out
  go_upto_region 4 with fail
  have fa := Rfr.setCell g4 W3 0 (.int .u32 (x.time.toNat : Int))
  have u4 := heap_setCell_same W3 g4 0 _ _ (.int .u32 (x.time.toNat : Int)) R4.out
  rw [ST.out] at u4
  have U4 := hide u4
  have U2 := hide ((fa.block _ (lt_heap Z2.out) (by have := GG.out; omega)).trans Z2.out)
  have G4 := hide (G3.out.via fa (by have := GG.out; omega))
  have F4 := hide (F3.out.via fa (by have := GG.out; omega))
  clear c3 f3 fa u4 R4 Z2 G3 F3
  generalize W3.setCell ⟨g4, 0, none⟩ (.int .u32 (x.time.toNat : Int)) = W4 at *
  go_wp2_with (with_reducible refine at_list ?_; first | refine wpList_loadS AN _ rfl g4 rfl C HSX.out 27 U4.out rfl ?_ | refine wpList_storeA AN rfl _ _ rfl (w.heap.size + 1) C HSX.out HOX.out rfl rfl Z HSZ.out 27 U2.out ?_)
  refine bodyPost_ret (resA AN rfl _ _ _ _ C HSX.out rfl (setRow_heap _ _ _ _ _ _ U2.out)) rfl ?_
  exact ⟨by rw [HC.out], G4.out.setRow _ (by have := GG.out; omega) _, F4.out.setRow _ (by omega) _⟩
end
end Go.Proofs.YtkoidjaaojmcnaaGreat
