/- Streams: the contract of the document's Next. -/
import Derived.Test.YtjcfojedahgfpaaGreatDoorFt
namespace Go.Proofs.YtjcfojedahgfpaaGreatDoor
open Go.RowKit
open Go.Deep
section
set_option maxRecDepth 10000
set_option maxHeartbeats 4000000
/-- What the document's Next tells, as values. -/
def nvals (x : Sq × Nx) : Value := .tuple #[.agg (m4 x.1), .string (txt x.2.cmd), .string (txt x.2.pay), .bool x.2.ok, .int .i64 x.2.err]
theorem rnext_any (x : Sq) (hm : x.magic < 4294967296) (hl : x.held.length ≤ 32816) (w : World) : Calls Tryz.prog 11 #[.agg (m4 x)] w fun e w' => e = .returned (nvals x.next) ∧ Below w.heap.size w w' := by
  have B1 : Hid (Below w.heap.size w ((w.alloc (.cells (m4 x) 28)).alloc (.cells mz4 28))) := two_below w _ _
  have R1 : Hid (((w.alloc (.cells (m4 x) 28)).alloc (.cells mz4 28)).heap[w.heap.size]? = some (.cells (m4 x) 28 (0, 0))) := (blk2 w _ _).1
  have Z1 : Hid (((w.alloc (.cells (m4 x) 28)).alloc (.cells mz4 28)).heap[w.heap.size + 1]? = some (.cells mz4 28 (0, 0))) := (blk2 w _ _).2
  have hz : (txt x.held).size = x.held.length := txt_size _
  have HG := hide (show w.heap.size ≤ w.heap.size + 1 by omega)
  have NE : Hid (w.heap.size + 1 ≠ w.heap.size) := by show _ ≠ _; omega
  generalize hN : x.next = N
  have HN := hide hN
  clear hN
  unfold Sq.next at HN
  go_enter Tryz.func11, Tryz.ntmps11
  go_upto_region 1 with (first | refine wpList_boxA rfl _ rfl (m4 x) rfl ?_ | refine wpList_allocA AM rfl rfl ?_)
  generalize (w.alloc (.cells (m4 x) 28)).alloc (.cells mz4 28) = W1 at *
  generalize w.heap.size + 1 = g2 at *
  obtain ⟨x0, x1, x2, x3⟩ := m4_cells R1.out
  by_cases hb : x.broken = 0
  · rw [if_neg (by simp [hb])] at HN
    rw [hb] at x2
    have HBR := hide hb
    clear hb
    have HH := hide fun W => rhead_any x.magic hm (txt x.held) (by rw [txt_size]; unfold maxLen; omega) W
    rw [txt_list] at HH
    have h4 := @headM_4 x.magic x.held
    have h0 := @headM_ok x.magic x.held
    have hbad := @headM_bad x.magic x.held
    have hlg := headM_long x.magic x.held
    have hd0 := fun h => decM_err0 x.magic x.held h
    have HD := hide fun W => rdecode_any x.magic hm (txt x.held) (by rw [txt_size]; omega) 0 W
    rw [txt_list] at HD
    unfold Sq.frontE Sq.whole at HN
    generalize headM x.magic x.held = H at *
    obtain ⟨he, hcm, n, q⟩ := H
    simp only at HH h4 h0 hbad hlg HN hd0
    have HC : Hid (∀ W, Below W1.heap.size W1 W → W.heap[w.heap.size]? = some (.cells (m4 x) 28 (0, 0)) ∧ W.heap[g2]? = some (.cells mz4 28 (0, 0))) := fun W hb => ⟨(hb.block _ (lt_heap R1.out)).trans R1.out, (hb.block _ (lt_heap Z1.out)).trans Z1.out⟩
    go_upto_region 4 with (go_at_call 21; refine (HH.out _).mono ?_; rintro e W2 ⟨rfl, b2⟩; have R2 := hide (HC.out _ b2).1; have Z2 := hide (HC.out _ b2).2; have B2 := hide (below_next B1.out b2); clear b2)
    clear x0 x1 x2 x3 HC HH R1 Z1 B1
    have y1 := (m4_cells R2.out).2.1
    by_cases e4 : he = 4
    · subst e4
      have h24 := h4 rfl
      have hn := (hbad (by decide)).1
      subst hn
      rw [if_pos rfl, if_neg (by simp), if_pos (by omega)] at HN
      generalize txt x.held = T at *
      go_wp2_with (first | refine wpList_loadA AM rfl _ rfl w.heap.size rfl (m4 x) rfl 28 R2.out ?_ | refine wpList_storeA AM rfl _ _ rfl g2 (m4 x) rfl (m4_one _) rfl rfl mz4 rfl 28 Z2.out ?_)
      exact bodyPost_ret (v := .tuple #[.agg (m4 x), .string ⟨#[]⟩, .string ⟨#[]⟩, .bool false, .int .i64 0]) (resA5 AM Tryz.results11 _ _ g2 28 (m4 x) rfl rfl (setRow_heap _ _ _ _ _ _ Z2.out) _ (by rfl) _ (by rfl) _ (by rfl) _ (by rfl)) rfl ⟨by rw [← HN.out]; rfl, below_setRow B2.out HG.out _⟩
    · have e4' : (he == 4) = false := by simpa using e4
      rw [if_neg e4] at HN
      by_cases e0 : he = 0
      · subst e0
        have h24 := h0 rfl
        rw [if_neg (by simp)] at HN
        by_cases hlt : ((txt x.held).size : Int) - 24 < n
        · rw [if_pos (by rw [hz] at hlt; omega)] at HN
          generalize txt x.held = T at *
          go_wp2_with (first | refine wpList_loadA AM rfl _ rfl w.heap.size rfl (m4 x) rfl 28 R2.out ?_ | refine wpList_storeA AM rfl _ _ rfl g2 (m4 x) rfl (m4_one _) rfl rfl mz4 rfl 28 Z2.out ?_)
          exact bodyPost_ret (v := .tuple #[.agg (m4 x), .string ⟨#[]⟩, .string ⟨#[]⟩, .bool false, .int .i64 0]) (resA5 AM Tryz.results11 _ _ g2 28 (m4 x) rfl rfl (setRow_heap _ _ _ _ _ _ Z2.out) _ (by rfl) _ (by rfl) _ (by rfl) _ (by rfl)) rfl ⟨by rw [← HN.out]; rfl, below_setRow B2.out HG.out _⟩
        · have hge : 24 + n ≤ x.held.length := by rw [hz] at hlt; omega
          rw [if_neg (by omega)] at HN
          have hde := hd0 rfl hge
          clear hd0
          generalize decM x.magic x.held 0 = D at *
          obtain ⟨de, dc, dp, dl⟩ := D
          simp only at HN hde
          unfold Dc.vals at HD
          simp only at HD
          have y0 := (m4_cells R2.out).1
          have HC : Hid (∀ W, Below W2.heap.size W2 W → W.heap[w.heap.size]? = some (.cells (m4 x) 28 (0, 0)) ∧ W.heap[g2]? = some (.cells mz4 28 (0, 0))) := fun W hb => ⟨(hb.block _ (lt_heap R2.out)).trans R2.out, (hb.block _ (lt_heap Z2.out)).trans Z2.out⟩
          have HX : Hid ((txt x.held).extract (24 + n) (txt x.held).size = txt (x.held.drop (24 + n))) := by
            apply ByteArray.ext
            rw [← Array.toList_inj, ext_list, txt_list]
            rfl
          generalize hT : txt x.held = T at *
          go_upto_region 10 with (go_at_call 22; refine (HD.out _).mono ?_; rintro e W3 ⟨rfl, b3⟩; have R3 := hide (HC.out _ b3).1; have Z3 := hide (HC.out _ b3).2; have B3 := hide (below_next B2.out b3); clear b3)
          clear y0 y1 HC R2 Z2 B2 HD
          have y1 := (m4_cells R3.out).2.1
          rw [hT] at y1
          have f1 := frozen_of_row W3 w.heap.size 1 _ _ R3.out
          have hge2 : (24 : Int) + n ≤ T.size := by rw [hz]; omega
          have HX2 : Hid (T.extract (24 + n) x.held.length = txt (x.held.drop (24 + n))) := by rw [← hz]; exact HX.out
          go_upto_region 11 with fail
          rw [HX2.out]
          have R4 : Hid ((W3.setCell ⟨w.heap.size, 1, none⟩ (.string (txt (x.held.drop (24 + n))))).heap[w.heap.size]? = some (.cells (m4 { x with held := x.held.drop (24 + n) }) 28 (0, 0))) := heap_setCell_same W3 w.heap.size 1 _ _ _ R3.out
          have Z4 : Hid ((W3.setCell ⟨w.heap.size, 1, none⟩ (.string (txt (x.held.drop (24 + n))))).heap[g2]? = some (.cells mz4 28 (0, 0))) := (Below.heap_setCell _ _ _ _ NE.out).trans Z3.out
          have B4 := hide (B3.out.setCell (p := ⟨w.heap.size, 1, none⟩) (Nat.le_refl _) (.string (txt (x.held.drop (24 + n)))))
          clear y1 f1 R3 Z3 B3 HX
          generalize W3.setCell ⟨w.heap.size, 1, none⟩ (.string (txt (x.held.drop (24 + n)))) = W4 at *
          by_cases hd : de = 0
          · subst hd
            rw [if_neg (by simp)] at HN
            have z3 := (m4_cells R4.out).2.2.2
            simp only at z3
            have zf := frozen_of_row W4 w.heap.size 3 _ _ R4.out
            have R5 : Hid ((W4.setCell ⟨w.heap.size, 3, none⟩ (.int .i64 (IntKind.i64.wrap (x.taken + 1)))).heap[w.heap.size]? = some (.cells (m4 { x with held := x.held.drop (24 + n), taken := IntKind.i64.wrap (x.taken + 1) }) 28 (0, 0))) := heap_setCell_same W4 w.heap.size 3 _ _ _ R4.out
            have Z5 : Hid ((W4.setCell ⟨w.heap.size, 3, none⟩ (.int .i64 (IntKind.i64.wrap (x.taken + 1)))).heap[g2]? = some (.cells mz4 28 (0, 0))) := (Below.heap_setCell _ _ _ _ NE.out).trans Z4.out
            have B5 := hide (B4.out.setCell (p := ⟨w.heap.size, 3, none⟩) (Nat.le_refl _) (.int .i64 (IntKind.i64.wrap (x.taken + 1))))
            go_upto_region 14 with fail
            rw [show wrap64 (x.taken + 1) = IntKind.i64.wrap (x.taken + 1) by unfold wrap64; exact (IntKind.wrap_i64 _).symm]
            clear z3 zf R4 Z4 B4
            generalize IntKind.i64.wrap (x.taken + 1) = tk at *
            generalize W4.setCell ⟨w.heap.size, 3, none⟩ (.int .i64 tk) = W5 at *
            go_wp2_with (first | refine wpList_loadA AM rfl _ rfl w.heap.size rfl (m4 { x with held := x.held.drop (24 + n), taken := tk }) rfl 28 R5.out ?_ | refine wpList_storeA AM rfl _ _ rfl g2 (m4 { x with held := x.held.drop (24 + n), taken := tk }) rfl (m4_one _) rfl rfl mz4 rfl 28 Z5.out ?_)
            exact bodyPost_ret (v := .tuple #[.agg (m4 { x with held := x.held.drop (24 + n), taken := tk }), .string (txt dc), .string (txt dp), .bool true, .int .i64 0]) (resA5 AM Tryz.results11 _ _ g2 28 (m4 { x with held := x.held.drop (24 + n), taken := tk }) rfl rfl (setRow_heap _ _ _ _ _ _ Z5.out) _ (by rfl) _ (by rfl) _ (by rfl) _ (by rfl)) rfl ⟨by rw [← HN.out]; rfl, below_setRow B5.out HG.out _⟩
          · have hd' : (de != 0) = true := by simp [hd]
            rw [if_pos hd] at HN
            go_wp2_with (first | refine wpList_loadA AM rfl _ rfl w.heap.size rfl (m4 { x with held := x.held.drop (24 + n) }) rfl 28 R4.out ?_ | refine wpList_storeA AM rfl _ _ rfl g2 (m4 { x with held := x.held.drop (24 + n) }) rfl (m4_one _) rfl rfl mz4 rfl 28 Z4.out ?_)
            exact bodyPost_ret (v := .tuple #[.agg (m4 { x with held := x.held.drop (24 + n) }), .string ⟨#[]⟩, .string ⟨#[]⟩, .bool false, .int .i64 de]) (resA5 AM Tryz.results11 _ _ g2 28 (m4 { x with held := x.held.drop (24 + n) }) rfl rfl (setRow_heap _ _ _ _ _ _ Z4.out) _ (by rfl) _ (by rfl) _ (by rfl) _ (by rfl)) rfl ⟨by rw [← HN.out]; rfl, below_setRow B4.out HG.out _⟩
      · have e0' : (he != 0) = true := by simp [e0]
        have e0'' : (he == 0) = false := by simpa using e0
        rw [if_pos e0] at HN
        have c2 := (m4_cells R2.out).2.2.1
        rw [HBR.out] at c2
        have f2 := frozen_of_row W2 w.heap.size 2 _ _ R2.out
        have R3 : Hid ((W2.setCell ⟨w.heap.size, 2, none⟩ (.int .i64 he)).heap[w.heap.size]? = some (.cells (m4 { x with broken := he }) 28 (0, 0))) := heap_setCell_same W2 w.heap.size 2 _ _ _ R2.out
        have c3 := (m4_cells R3.out).2.1
        simp only at c3
        have f3 := frozen_of_row _ w.heap.size 1 _ _ R3.out
        have R4 : Hid (((W2.setCell ⟨w.heap.size, 2, none⟩ (.int .i64 he)).setCell ⟨w.heap.size, 1, none⟩ (.string ⟨#[]⟩)).heap[w.heap.size]? = some (.cells (m4 { x with broken := he, held := [] }) 28 (0, 0))) := heap_setCell_same _ w.heap.size 1 _ _ _ R3.out
        have Z4 : Hid (((W2.setCell ⟨w.heap.size, 2, none⟩ (.int .i64 he)).setCell ⟨w.heap.size, 1, none⟩ (.string ⟨#[]⟩)).heap[g2]? = some (.cells mz4 28 (0, 0))) := (Below.heap_setCell _ _ _ _ NE.out).trans ((Below.heap_setCell _ _ _ _ NE.out).trans Z2.out)
        have B4 := hide ((B2.out.setCell (p := ⟨w.heap.size, 2, none⟩) (Nat.le_refl _) (.int .i64 he)).setCell (p := ⟨w.heap.size, 1, none⟩) (Nat.le_refl _) (.string ⟨#[]⟩))
        go_upto_region 8 with fail
        clear c2 f2 c3 f3 R3
        generalize (W2.setCell ⟨w.heap.size, 2, none⟩ (.int .i64 he)).setCell ⟨w.heap.size, 1, none⟩ (.string ⟨#[]⟩) = W4 at *
        go_wp2_with (first | refine wpList_loadA AM rfl _ rfl w.heap.size rfl (m4 { x with broken := he, held := [] }) rfl 28 R4.out ?_ | refine wpList_storeA AM rfl _ _ rfl g2 (m4 { x with broken := he, held := [] }) rfl (m4_one _) rfl rfl mz4 rfl 28 Z4.out ?_)
        exact bodyPost_ret (v := .tuple #[.agg (m4 { x with broken := he, held := [] }), .string ⟨#[]⟩, .string ⟨#[]⟩, .bool false, .int .i64 he]) (resA5 AM Tryz.results11 _ _ g2 28 (m4 { x with broken := he, held := [] }) rfl rfl (setRow_heap _ _ _ _ _ _ Z4.out) _ (by rfl) _ (by rfl) _ (by rfl) _ (by rfl)) rfl ⟨by rw [← HN.out]; rfl, below_setRow B4.out HG.out _⟩
  · rw [if_pos hb] at HN
    have hb' : (x.broken != 0) = true := by simp [hb]
    go_upto_region 2 with fail
    have SC : Hid (∀ W : World, W.heap[w.heap.size]? = some (.cells (m4 x) 28 (0, 0)) → W.cell? ⟨w.heap.size, 2, none⟩ = some (.int .i64 x.broken)) := fun W h => (m4_cells h).2.2.1
    have R3 : Hid ((W1.drew.setRow g2 (m4 x)).heap[w.heap.size]? = some (.cells (m4 x) 28 (0, 0))) := (setRow_other _ _ _ _ (Ne.symm NE.out)).trans R1.out
    clear x0 x1 x2 x3
    refine wp_region_held_drew (S := fun W => W.heap[w.heap.size]? = some (.cells (m4 x) 28 (0, 0))) (by kernel_rfl) R1.out (fun hH => ?_)
    refine wpAnyH_take (i := 0) (v := .agg (m4 x)) rfl (by kernel_rfl) (by kernel_rfl) (by kernel_rfl) (fun _ _ _ h => h) (yl_load (by rfl) _ (by rfl) _ (m4 x) (by rfl) (fun W hS => ld_row AM rfl hS)) hH ?_
    change wpAnyH _ _ _ _ _ _ _ (Act.put _ (some 17) _) _
    simp only [Act.put, List.setIfInBounds_toArray, List.set_cons_zero, List.set_cons_succ]
    refine wpAnyH_take (i := 1) (v := .pointer (some ⟨w.heap.size, 2, none⟩)) rfl (by kernel_rfl) (by kernel_rfl) (by kernel_rfl) (fun _ _ _ h => h) (.inl ⟨by rfl, fun W _ => by go_simp⟩) hH ?_
    change wpAnyH _ _ _ _ _ _ _ (Act.put _ (some 18) _) _
    simp only [Act.put, List.setIfInBounds_toArray, List.set_cons_zero, List.set_cons_succ]
    refine wpAnyH_take (i := 2) (v := .int .i64 x.broken) rfl (by kernel_rfl) (by kernel_rfl) (by kernel_rfl) (fun _ _ _ h => h) (.inl ⟨by rfl, fun W hS => by have c4 := SC.out W hS; go_simp⟩) hH ?_
    change wpAnyH _ _ _ _ _ _ _ (Act.put _ (some 19) _) _
    simp only [Act.put, List.setIfInBounds_toArray, List.set_cons_zero, List.set_cons_succ]
    refine wpAnyH_ready (rs := [3]) (by kernel_rfl) (by simp) (AllReadyH.cons rfl (fun K1 hK1 => ?_) AllReadyH.nil)
    refine stepStoreA AM (by rfl) _ _ (by rfl) g2 (m4 x) rfl (m4_one _) (by rfl) (by rfl) mz4 rfl 28 Z1.out ?_
    refine hK1.out _ _ R3.out (fun hH => ?_)
    clear hK1
    change wpAnyH _ _ _ _ _ _ _ (Act.put _ none _) _
    simp only [Act.put]
    refine wpAnyH_take (i := 4) (v := .string ⟨#[]⟩) rfl (by kernel_rfl) (by kernel_rfl) (by kernel_rfl) (fun _ _ _ h => h) (.inl ⟨by rfl, fun W _ => by go_simp⟩) hH ?_
    change wpAnyH _ _ _ _ _ _ _ (Act.put _ (some 3) _) _
    simp only [Act.put, List.setIfInBounds_toArray, List.set_cons_zero, List.set_cons_succ]
    refine wpAnyH_take (i := 5) (v := .string ⟨#[]⟩) rfl (by kernel_rfl) (by kernel_rfl) (by kernel_rfl) (fun _ _ _ h => h) (.inl ⟨by rfl, fun W _ => by go_simp⟩) hH ?_
    change wpAnyH _ _ _ _ _ _ _ (Act.put _ (some 4) _) _
    simp only [Act.put, List.setIfInBounds_toArray, List.set_cons_zero, List.set_cons_succ]
    refine wpAnyH_take (i := 6) (v := .bool false) rfl (by kernel_rfl) (by kernel_rfl) (by kernel_rfl) (fun _ _ _ h => h) (.inl ⟨by rfl, fun W _ => by go_simp⟩) hH ?_
    change wpAnyH _ _ _ _ _ _ _ (Act.put _ (some 5) _) _
    simp only [Act.put, List.setIfInBounds_toArray, List.set_cons_zero, List.set_cons_succ]
    refine wpAnyH_take (i := 7) (v := .int .i64 x.broken) rfl (by kernel_rfl) (by kernel_rfl) (by kernel_rfl) (fun _ _ _ h => h) (.inl ⟨by rfl, fun W _ => by go_simp⟩) hH ?_
    change wpAnyH _ _ _ _ _ _ _ (Act.put _ (some 6) _) _
    simp only [Act.put, List.setIfInBounds_toArray, List.set_cons_zero, List.set_cons_succ]
    refine wpAnyH_done (by kernel_rfl) ?_ _
    go_wp2
    exact bodyPost_ret (v := .tuple #[.agg (m4 x), .string ⟨#[]⟩, .string ⟨#[]⟩, .bool false, .int .i64 x.broken]) (resA5 AM Tryz.results11 _ _ g2 28 (m4 x) rfl rfl (setRow_heap _ _ _ _ _ _ (show W1.drew.heap[g2]? = _ from Z1.out)) _ (by rfl) _ (by rfl) _ (by rfl) _ (by rfl)) rfl ⟨by rw [← HN.out]; rfl, below_setRow (below_drew B1.out) HG.out _⟩
end
end Go.Proofs.YtjcfojedahgfpaaGreatDoor
