/- The walk of TxTells. -/
import Derived.Test.YtfldpejdpinppaaDoorKyd
import Derived.Test.YtfldpejdpinppaaDoorKr
namespace Go.Proofs.YtfldpejdpinppaaDoor
open Go.RowKit
open Go.Deep
set_option linter.unusedVariables false
theorem wpList_buildW {t : TypeId} {n : Nat} {z : Array Value} {w : World} {ops : Array Oper} {rest : List Oper} {o : Oper} {a : Act} {Q : Exit → Act → World → Prop} (A : Arr t n z) (ho : o.op = .build t #[]) (hw : Region.wanted o (yielded ops a.tmps) = true)
    (h : wpList Tryd.prog ops Q rest (a.put o.dst (.agg z)) w) : wpList Tryd.prog ops Q (o :: rest) a w := by
  refine wpList_step fun K hK => ?_
  rw [if_pos hw]
  unfold Oper.wp execOp
  simp only [ho, List.map_toArray, List.map_nil, A.build, Sem.run_bind, Result.andThen_ok, Sem.run_pure]
  exact hK _ _ h
theorem eq25 (l : List UInt8) (hl : l.length = 32) (W : World) : (Op.equalIn 10000 31 (.agg (hc l)) (.agg (hc l))).run Tryd.prog W = .ok true W := by
  exact eqb 31 32 Tryd.underlying31 l hl W
section
set_option maxRecDepth 10000
set_option maxHeartbeats 4000000
theorem txTells_walk (w : World) (hK : Kg w) (m : Tm) (ai : Option Addr) (ci : Nat) (ao : Option Addr) (co : Nat) (hm : LT w m ai ci ao co) (hf : m.fit) (hN : m.bytes.length ≤ 9223372036854775807) : Calls Tryd.prog 3 #[.agg (m.cells ai ci ao co)] w fun r w' => r = .returned (.bool true) ∧ Below w.heap.size w w' := by
  have b1 := (Below.refl w.heap.size w).alloc (Nat.le_refl _) (.cells (m.cells ai ci ao co) 26)
  have R1 := hide (heap_alloc_last w (.cells (m.cells ai ci ao co) 26))
  have HL := hide (hm.below b1)
  have KS := hide (hK.next b1)
  have B1 := hide b1
  have CZ : Hid ((m.cells ai ci ao co).size = 4) := rfl
  have HF := hide hf
  have HE : Hid (∀ W, LT W m ai ci ao co → Calls Tryd.prog 5 #[.agg (m.cells ai ci ao co)] W fun e w' => e = .returned (.tuple #[.string m.encT, .int .i64 m.toldE]) ∧ Below W.heap.size W w') := fun W l => encode_any m ai ci ao co W l HF.out
  have HI : Hid (∀ W, Kg W → LT W m ai ci ao co → Calls Tryd.prog 6 #[.agg (m.cells ai ci ao co)] W fun e w' => e = .returned (.tuple #[.agg (hc m.idT), .int .i64 m.toldE]) ∧ Below W.heap.size W w') := fun W g l => id_any m ai ci ao co W g l HF.out
  have HGv : Hid (∀ W, LT W m ai ci ao co → Calls Tryd.prog 7 #[.agg (m.cells ai ci ao co)] W fun e w' => ∃ (bi : Option Addr) (di : Nat) (bo : Option Addr) (d0 : Nat), e = .returned (.agg (m.cells bi di bo d0)) ∧ LR w' m bi di bo d0 ∧ Below W.heap.size W w') := fun W l => given_any m ai ci ao co W l HF.out
  have HZ : Hid (∀ W, LT W m ai ci ao co → Calls Tryd.prog 9 #[.agg (m.cells ai ci ao co)] W fun e w' => e = .returned (.int .i64 ((txt m.bytes).size : Int)) ∧ Below W.heap.size W w') := fun W l => by
    rw [txt_sz]
    exact size_any m ai ci ao co W l HF.out hN
  have HY : Hid (∀ W bi di bo d0, LR W m bi di bo d0 → Calls Tryd.prog 10 #[.agg (m.cells bi di bo d0)] W fun e w' => e = .returned (.string (txt m.bytes)) ∧ Below W.heap.size W w') := fun W bi di bo d0 l => tbytesR_any m bi di bo d0 W l HF.out hN
  have HD : Hid (∀ W bi di bo d0, LR W m bi di bo d0 → Calls Tryd.prog 11 #[.agg (m.cells bi di bo d0)] W fun e w' => e = .returned (.int .i64 m.toldE) ∧ Below W.heap.size W w') := fun W bi di bo d0 l => rtold_any m bi di bo d0 W l HF.out
  have HR : Hid (∀ W bi di bo d0, LR W m bi di bo d0 → Calls Tryd.prog 12 #[.agg (m.cells bi di bo d0)] W fun e w' => e = .returned (.tuple #[.agg (hc m.idT), .bool (decide (m.toldE = 0))]) ∧ Below W.heap.size W w') := fun W bi di bo d0 l => rid_any m bi di bo d0 W l HF.out
  have i1 : Hid ((hc m.idT).size = 32) := by show _ = _; rw [hc_size, m.idT_len]
  have i2 := hide (hc_one m.idT)
  have i3 := hide (eq25 m.idT m.idT_len)
  have i4 : Hid (¬ m.toldE = 0 → m.idT = zeros ∧ m.encT = ⟨#[]⟩) := fun h => ⟨by rw [Tm.idT, if_neg h], by rw [Tm.encT, if_neg h]⟩
  have i5 : Hid (m.toldE = 0 → m.encT = txt m.bytes) := fun h => by rw [Tm.encT, if_pos h]
  have cz : Hid (∀ bi di bo d0, (m.cells bi di bo d0).size = 4 ∧ (m.cells bi di bo d0).all (·.oneCell') = true) := fun bi di bo d0 => ⟨rfl, m.one bi di bo d0⟩
  clear b1 hm hf hK hN HF
  generalize m.cells ai ci ao co = CM at *
  generalize hCR : m.cells = CR at *
  generalize m.idT = ID at *
  generalize m.toldE = E at *
  generalize m.encT = S at *
  generalize txt m.bytes = T at *
  go_enter Tryd.func3, Tryd.ntmps3
  go_upto_region 1 with ((with_reducible refine at_list ?_); refine wpList_boxA rfl _ rfl CM rfl ?_)
  generalize w.alloc (.cells CM 26) = W0 at *
  go_upto_region 3 with (first | (go_at_call 5; refine (HE.out _ HL.out).mono ?_; rintro r W1 ⟨rfl, b1⟩; have D1 := hide b1; clear b1; have R3 := hide ((D1.out.block _ (lt_heap R1.out)).trans R1.out)) | (go_at_call 6; refine (HI.out _ (KS.out.next D1.out) (HL.out.below D1.out)).mono ?_; rintro r W2 ⟨rfl, b1⟩; have D2 := hide (below_next D1.out b1); clear b1) | ((with_reducible refine at_list ?_); first | refine wpList_loadS AT _ rfl w.heap.size rfl CM CZ.out 26 R1.out (by rfl) ?_ | refine wpList_loadS AT _ rfl w.heap.size rfl CM CZ.out 26 R3.out (by rfl) ?_ | refine wpList_allocA A25 rfl rfl ?_ | refine wpList_store_newA A25 rfl _ _ rfl _ rfl (hc ID) i1.out i2.out rfl rfl ?_))
  have ba := (Below.refl W2.heap.size W2).alloc (Nat.le_refl _) (.cells (hc ID) 31)
  have D3 := hide (below_next D2.out ba)
  have R5 := hide (heap_alloc_last W2 (.cells (hc ID) 31))
  have R4 := hide ((D3.out.block _ (lt_heap R1.out)).trans R1.out)
  clear ba R3
  generalize W2.alloc (.cells (hc ID) 31) = W3 at *
  generalize W2.heap.size = g5 at *
  go_upto_region 4 with (first | (go_at_call 7; refine (HGv.out _ (HL.out.below D3.out)).mono ?_; rintro r W4 ⟨bi, di, bo, d0, rfl, lr, b1⟩; have D4 := hide b1; have LRR := hide lr; clear b1 lr) | ((with_reducible refine at_list ?_); first | refine wpList_loadS AT _ rfl w.heap.size rfl CM CZ.out 26 R4.out (by rfl) ?_ | refine wpList_allocA ATr rfl rfl ?_ | refine wpList_store_newA ATr rfl _ _ rfl _ rfl (CR bi di bo d0) (cz.out _ _ _ _).1 (cz.out _ _ _ _).2 rfl rfl ?_))
  have ba := (Below.refl W4.heap.size W4).alloc (Nat.le_refl _) (.cells (CR bi di bo d0) 37)
  have D5 := hide (below_next D4.out ba)
  have R7 := hide (heap_alloc_last W4 (.cells (CR bi di bo d0) 37))
  have L7 := hide (LRR.out.below ba)
  have R5' := hide ((D5.out.block _ (lt_heap R5.out)).trans R5.out)
  have R1' := hide ((D5.out.block _ (lt_heap R4.out)).trans R4.out)
  have RZ := hide (cz.out bi di bo d0).1
  have HY2 := hide (fun W => HY.out W bi di bo d0)
  have HD2 := hide (fun W => HD.out W bi di bo d0)
  have HR2 := hide (fun W => HR.out W bi di bo d0)
  have D6 := hide (below_next D3.out D5.out)
  have HL6 := hide (HL.out.below D6.out)
  have B6 := hide (below_next B1.out D6.out)
  clear ba D4 D5 LRR R4 R5 cz HY HD HR D3 D1 D2 HL HE HI HGv KS R1
  generalize W4.alloc (.cells (CR bi di bo d0) 37) = V0 at *
  generalize W4.heap.size = g7 at *
  generalize CR bi di bo d0 = CX at *
  have RT : Hid (∀ W, Below V0.heap.size V0 W → W.heap[w.heap.size]? = some (.cells CM 26 (0, 0))) := fun W b => (b.block _ (lt_heap R1'.out)).trans R1'.out
  have RX : Hid (∀ W, Below V0.heap.size V0 W → W.heap[g7]? = some (.cells CX 37 (0, 0))) := fun W b => (b.block _ (lt_heap R7.out)).trans R7.out
  have RI : Hid (∀ W, Below V0.heap.size V0 W → W.heap[g5]? = some (.cells (hc ID) 31 (0, 0))) := fun W b => (b.block _ (lt_heap R5'.out)).trans R5'.out
  have DV1 := hide ((Below.refl V0.heap.size V0).drew)
  refine wp_region_held_drew (S := fun W => Below V0.heap.size V0 W) (by kernel_rfl) DV1.out (fun hH => ?_)
  generalize hWd : V0.drew = V1 at *
  clear hWd
  refine wpAnyH_ready (rs := [0]) (by kernel_rfl) (by simp) (AllReadyH.cons rfl (fun K1 hK1 => ?_) AllReadyH.nil)
  go_simp
  refine (awake10 V1).mono ?_
  rintro r V2 ⟨rfl, be⟩
  have DV2 := hide (below_next DV1.out be)
  clear be
  refine hK1.out _ _ DV2.out (fun hH => ?_)
  clear hK1
  refine wpAnyH_take (i := 1) (v := (.bool false)) rfl (by kernel_rfl) (by kernel_rfl) (by kernel_rfl) (fun _ _ _ h => h) (.inl ⟨by rfl, fun W _ => by go_simp⟩) hH ?_
  change wpAnyH _ _ _ _ _ _ _ (Act.put _ (some 23) _) _
  simp only [Act.put, List.setIfInBounds_toArray, List.set_cons_zero, List.set_cons_succ]
  refine wpAnyH_take (i := 2) (v := (.bool false)) rfl (by kernel_rfl) (by kernel_rfl) (by kernel_rfl) (fun _ _ _ h => h) (yl_move (by rfl) _ (by rfl) _ (by rfl)) hH ?_
  change wpAnyH _ _ _ _ _ _ _ (Act.put _ (some 24) _) _
  simp only [Act.put, List.setIfInBounds_toArray, List.set_cons_zero, List.set_cons_succ]
  refine wpAnyH_take (i := 3) (v := (.agg CM)) rfl (by kernel_rfl) (by kernel_rfl) (by kernel_rfl) (fun _ _ _ h => h) (yl_load (by rfl) _ (by rfl) _ CM (by rfl) (fun W hS => ld_row AT CZ.out (RT.out W hS))) hH ?_
  change wpAnyH _ _ _ _ _ _ _ (Act.put _ (some 25) _) _
  simp only [Act.put, List.setIfInBounds_toArray, List.set_cons_zero, List.set_cons_succ]
  refine wpAnyH_take (i := 5) (v := (.agg CX)) rfl (by kernel_rfl) (by kernel_rfl) (by kernel_rfl) (fun _ _ _ h => h) (yl_load (by rfl) _ (by rfl) _ CX (by rfl) (fun W hS => ld_row ATr RZ.out (RX.out W hS))) hH ?_
  change wpAnyH _ _ _ _ _ _ _ (Act.put _ (some 27) _) _
  simp only [Act.put, List.setIfInBounds_toArray, List.set_cons_zero, List.set_cons_succ]
  refine wpAnyH_ready (rs := [4]) (by kernel_rfl) (by simp) (AllReadyH.cons rfl (fun K1 hK1 => ?_) AllReadyH.nil)
  go_simp
  refine (HZ.out V2 (HL6.out.below DV2.out)).mono ?_
  rintro r V3 ⟨rfl, be⟩
  have DV3 := hide (below_next DV2.out be)
  clear be
  refine hK1.out _ _ DV3.out (fun hH => ?_)
  clear hK1
  refine wpAnyH_ready (rs := [6]) (by kernel_rfl) (by simp) (AllReadyH.cons rfl (fun K1 hK1 => ?_) AllReadyH.nil)
  go_simp
  refine (HY2.out V3 (L7.out.below DV3.out)).mono ?_
  rintro r V4 ⟨rfl, be⟩
  have DV4 := hide (below_next DV3.out be)
  clear be
  refine hK1.out _ _ DV4.out (fun hH => ?_)
  clear hK1
  have hq1 : ((T.size : Int) != (T.size : Int)) = false := by simp
  have hq2 : (E != E) = false := by simp
  refine wpAnyH_take (i := 7) (v := (.int .i64 (T.size : Int))) rfl (by kernel_rfl) (by kernel_rfl) (by kernel_rfl) (fun _ _ _ h => h) (.inl ⟨by rfl, fun W _ => by go_simp⟩) hH ?_
  change wpAnyH _ _ _ _ _ _ _ (Act.put _ (some 29) _) _
  simp only [Act.put, List.setIfInBounds_toArray, List.set_cons_zero, List.set_cons_succ]
  refine wpAnyH_take (i := 8) (v := (.bool false)) rfl (by kernel_rfl) (by kernel_rfl) (by kernel_rfl) (fun _ _ _ h => h) (.inl ⟨by rfl, fun W _ => by go_simp⟩) hH ?_
  change wpAnyH _ _ _ _ _ _ _ (Act.put _ (some 30) _) _
  simp only [Act.put, List.setIfInBounds_toArray, List.set_cons_zero, List.set_cons_succ]
  refine wpAnyH_take (i := 9) (v := (.bool false)) rfl (by kernel_rfl) (by kernel_rfl) (by kernel_rfl) (fun _ _ _ h => h) (.inl ⟨by rfl, fun W _ => by go_simp⟩) hH ?_
  change wpAnyH _ _ _ _ _ _ _ (Act.put _ (some 31) _) _
  simp only [Act.put, List.setIfInBounds_toArray, List.set_cons_zero, List.set_cons_succ]
  refine wpAnyH_take (i := 10) (v := (.bool false)) rfl (by kernel_rfl) (by kernel_rfl) (by kernel_rfl) (fun _ _ _ h => h) (yl_move (by rfl) _ (by rfl) _ (by rfl)) hH ?_
  change wpAnyH _ _ _ _ _ _ _ (Act.put _ (some 32) _) _
  simp only [Act.put, List.setIfInBounds_toArray, List.set_cons_zero, List.set_cons_succ]
  refine wpAnyH_take (i := 11) (v := (.int .i64 E)) rfl (by kernel_rfl) (by kernel_rfl) (by kernel_rfl) (fun _ _ _ h => h) (yl_move (by rfl) _ (by rfl) _ (by rfl)) hH ?_
  change wpAnyH _ _ _ _ _ _ _ (Act.put _ (some 33) _) _
  simp only [Act.put, List.setIfInBounds_toArray, List.set_cons_zero, List.set_cons_succ]
  refine wpAnyH_take (i := 12) (v := (.agg CX)) rfl (by kernel_rfl) (by kernel_rfl) (by kernel_rfl) (fun _ _ _ h => h) (yl_load (by rfl) _ (by rfl) _ CX (by rfl) (fun W hS => ld_row ATr RZ.out (RX.out W hS))) hH ?_
  change wpAnyH _ _ _ _ _ _ _ (Act.put _ (some 34) _) _
  simp only [Act.put, List.setIfInBounds_toArray, List.set_cons_zero, List.set_cons_succ]
  refine wpAnyH_ready (rs := [13]) (by kernel_rfl) (by simp) (AllReadyH.cons rfl (fun K1 hK1 => ?_) AllReadyH.nil)
  go_simp
  refine (HD2.out V4 (L7.out.below DV4.out)).mono ?_
  rintro r V5 ⟨rfl, be⟩
  have DV5 := hide (below_next DV4.out be)
  clear be
  refine hK1.out _ _ DV5.out (fun hH => ?_)
  clear hK1
  refine wpAnyH_take (i := 14) (v := (.bool false)) rfl (by kernel_rfl) (by kernel_rfl) (by kernel_rfl) (fun _ _ _ h => h) (.inl ⟨by rfl, fun W _ => by go_simp⟩) hH ?_
  change wpAnyH _ _ _ _ _ _ _ (Act.put _ (some 36) _) _
  simp only [Act.put, List.setIfInBounds_toArray, List.set_cons_zero, List.set_cons_succ]
  refine wpAnyH_take (i := 15) (v := (.bool false)) rfl (by kernel_rfl) (by kernel_rfl) (by kernel_rfl) (fun _ _ _ h => h) (.inl ⟨by rfl, fun W _ => by go_simp⟩) hH ?_
  change wpAnyH _ _ _ _ _ _ _ (Act.put _ (some 37) _) _
  simp only [Act.put, List.setIfInBounds_toArray, List.set_cons_zero, List.set_cons_succ]
  refine wpAnyH_take (i := 16) (v := (.bool false)) rfl (by kernel_rfl) (by kernel_rfl) (by kernel_rfl) (fun _ _ _ h => h) (yl_move (by rfl) _ (by rfl) _ (by rfl)) hH ?_
  change wpAnyH _ _ _ _ _ _ _ (Act.put _ (some 38) _) _
  simp only [Act.put, List.setIfInBounds_toArray, List.set_cons_zero, List.set_cons_succ]
  refine wpAnyH_take (i := 17) (v := (.int .i64 E)) rfl (by kernel_rfl) (by kernel_rfl) (by kernel_rfl) (fun _ _ _ h => h) (yl_move (by rfl) _ (by rfl) _ (by rfl)) hH ?_
  change wpAnyH _ _ _ _ _ _ _ (Act.put _ (some 39) _) _
  simp only [Act.put, List.setIfInBounds_toArray, List.set_cons_zero, List.set_cons_succ]
  refine wpAnyH_take (i := 18) (v := (.int .i64 E)) rfl (by kernel_rfl) (by kernel_rfl) (by kernel_rfl) (fun _ _ _ h => h) (yl_move (by rfl) _ (by rfl) _ (by rfl)) hH ?_
  change wpAnyH _ _ _ _ _ _ _ (Act.put _ (some 40) _) _
  simp only [Act.put, List.setIfInBounds_toArray, List.set_cons_zero, List.set_cons_succ]
  refine wpAnyH_take (i := 19) (v := (.bool false)) rfl (by kernel_rfl) (by kernel_rfl) (by kernel_rfl) (fun _ _ _ h => h) (.inl ⟨by rfl, fun W _ => by go_simp⟩) hH ?_
  change wpAnyH _ _ _ _ _ _ _ (Act.put _ (some 41) _) _
  simp only [Act.put, List.setIfInBounds_toArray, List.set_cons_zero, List.set_cons_succ]
  refine wpAnyH_take (i := 20) (v := (.bool false)) rfl (by kernel_rfl) (by kernel_rfl) (by kernel_rfl) (fun _ _ _ h => h) (.inl ⟨by rfl, fun W _ => by go_simp⟩) hH ?_
  change wpAnyH _ _ _ _ _ _ _ (Act.put _ (some 42) _) _
  simp only [Act.put, List.setIfInBounds_toArray, List.set_cons_zero, List.set_cons_succ]
  refine wpAnyH_done (by kernel_rfl) ?_ _
  clear hH hq1 hq2 HD2 HZ R7 R5' R1' HL6 CZ DV1
  have RI5 := hide (RI.out _ DV5.out)
  by_cases h0 : E = 0
  · have hS := i5.out h0
    subst h0
    subst hS
    have RX5 := hide (RX.out _ DV5.out)
    have hTT : (S.toList == S.toList) = true := by simp
    rw [decide_eq_true (rfl : (0 : Int) = 0)] at HR2
    clear i4 i5
    go_upto_region 9 with (first | (go_at_call 12; refine (HR2.out _ (L7.out.below DV5.out)).mono ?_; rintro r V6 ⟨rfl, be⟩; have DV6 := hide (below_next DV5.out be); clear be) | ((with_reducible refine at_list ?_); first | refine wpList_loadS ATr _ rfl g7 rfl CX RZ.out 37 RX5.out (by rfl) ?_ | refine wpList_allocA A24 rfl rfl ?_ | refine wpList_store_newA A24 rfl _ _ rfl _ rfl (hc ID) i1.out i2.out rfl rfl ?_))
    have ba := (Below.refl V6.heap.size V6).alloc (Nat.le_refl _) (.cells (hc ID) 30)
    have DV7 := hide (below_next DV6.out ba)
    have R8 := hide (heap_alloc_last V6 (.cells (hc ID) 30))
    have RX7 := hide (RX.out _ DV7.out)
    clear ba RI5 RX5 DV6
    generalize V6.alloc (.cells (hc ID) 30) = V7 at *
    generalize V6.heap.size = g8 at *
    go_wp2_with (first | (go_at_call 10; refine (HY2.out _ (L7.out.below DV7.out)).mono ?_; rintro r V8 ⟨rfl, be⟩; have DV8 := hide (below_next DV7.out be); have R9 := hide ((be.block _ (lt_heap R8.out)).trans R8.out); have RI8 := hide (RI.out _ DV8.out); clear be) | ((with_reducible refine at_list ?_); first | refine wpList_loadS ATr _ rfl g7 rfl CX RZ.out 37 RX7.out (by rfl) ?_ | refine wpList_loadS A25 _ rfl g5 rfl (hc ID) i1.out 31 RI8.out (by rfl) ?_ | refine wpList_loadS A24 _ rfl g8 rfl (hc ID) i1.out 30 R9.out (by rfl) ?_ | refine wpList_eql 31 _ _ _ rfl (hc ID) (hc ID) rfl rfl (by rfl) (by kernel_rfl) true i3.out ?_))
    go_ret
    exact ⟨rfl, below_next B6.out DV8.out⟩
  · obtain ⟨rfl, rfl⟩ := i4.out h0
    clear i4 i5 HR2 HY2
    go_wp2_with ((with_reducible refine at_list ?_); first | refine wpList_loadS A25 _ rfl g5 rfl (hc zeros) i1.out 31 RI5.out (by rfl) ?_ | refine wpList_buildW A25 rfl (by rfl) ?_ | refine wpList_eql 31 _ _ _ rfl (hc zeros) (hc zeros) rfl rfl (by rfl) (by kernel_rfl) true i3.out ?_)
    go_ret
    exact ⟨rfl, below_next B6.out DV5.out⟩
end
end Go.Proofs.YtfldpejdpinppaaDoor
