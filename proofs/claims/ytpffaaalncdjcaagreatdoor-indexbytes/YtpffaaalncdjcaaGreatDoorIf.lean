/- The document's Take: its contract. -/
import Derived.Test.YtpffaaalncdjcaaGreatDoorIe
namespace Go.Proofs.YtpffaaalncdjcaaGreatDoor
open Go.RowKit
open Go.Deep
set_option linter.unusedVariables false
section
set_option maxRecDepth 10000
set_option maxHeartbeats 4000000
theorem rtake_len (s : ByteArray) (hs : s.size ≤ maxLen) (hn : s.size ≠ 97) (w : World) : Calls Tryz.prog 9 #[.string s] w fun e w' => e = .returned (.tuple #[.agg (tkE s.data.toList).1.cells.toArray, .int .i64 (tkE s.data.toList).2]) ∧ Below w.heap.size w w' := by
  have R1 := hide (heap_alloc_last w (.cells zEn.cells.toArray 37))
  have B1 := hide ((Below.refl w.heap.size w).alloc (Nat.le_refl _) (.cells zEn.cells.toArray 37))
  have hl : s.data.toList.length = s.size := by simp
  by_cases h97 : s.size < 97
  · have EV : tkE s.data.toList = (zEn, 4) := by rw [tkE, dif_neg (by omega), if_pos (by omega)]
    rw [EV]
    have q1 : (s.size : Int) < 97 := by omega
    clear EV hl hn
    go_enter Tryz.func9, Tryz.ntmps9
    go_upto_region 1 with ((with_reducible refine at_list ?_); refine wpList_allocA AEr rfl rfl ?_)
    generalize w.alloc (.cells zEn.cells.toArray 37) = W0 at *
    go_wp2_with ((with_reducible refine at_list ?_); first | refine wpList_buildA AEr rfl rfl ?_ | refine wpList_storeA AEr rfl _ _ rfl w.heap.size zEn.cells.toArray zEn.size zEn.all rfl rfl zEn.cells.toArray zEn.size 37 R1.out ?_)
    exact bodyPost_ret (v := .tuple #[.agg zEn.cells.toArray, .int .i64 4]) (resA2K AEr Tryz.results9 _ _ w.heap.size 37 _ zEn.size rfl (setRow_heap _ _ _ _ _ _ R1.out) _ rfl) rfl ⟨rfl, below_setRow B1.out (Nat.le_refl _) _⟩
  · have EV : tkE s.data.toList = (zEn, 5) := by rw [tkE, dif_neg (by omega), if_neg (by omega)]
    rw [EV]
    have q1 : ¬ (s.size : Int) < 97 := by omega
    have q2 : (s.size : Int) > 97 := by omega
    have q3 : (97 : Int) < (s.size : Int) := by omega
    clear EV hl hn
    go_enter Tryz.func9, Tryz.ntmps9
    go_upto_region 1 with ((with_reducible refine at_list ?_); refine wpList_allocA AEr rfl rfl ?_)
    generalize w.alloc (.cells zEn.cells.toArray 37) = W0 at *
    go_wp2_with ((with_reducible refine at_list ?_); first | refine wpList_buildA AEr rfl rfl ?_ | refine wpList_storeA AEr rfl _ _ rfl w.heap.size zEn.cells.toArray zEn.size zEn.all rfl rfl zEn.cells.toArray zEn.size 37 R1.out ?_)
    exact bodyPost_ret (v := .tuple #[.agg zEn.cells.toArray, .int .i64 5]) (resA2K AEr Tryz.results9 _ _ w.heap.size 37 _ zEn.size rfl (setRow_heap _ _ _ _ _ _ R1.out) _ rfl) rfl ⟨rfl, below_setRow B1.out (Nat.le_refl _) _⟩
theorem rtakeE_97 (s : ByteArray) (hs : s.size ≤ maxLen) (l : List UInt8) (hL : s.data.toList = l) (hl : l.length = 97) (w : World) : Calls Tryz.prog 9 #[.string s] w fun e w' => e = .returned (.tuple #[.agg (tkE l).1.cells.toArray, .int .i64 (tkE l).2]) ∧ Below w.heap.size w w' := by
  have R1 := hide (heap_alloc_last w (.cells zEn.cells.toArray 37))
  have B1 := hide ((Below.refl w.heap.size w).alloc (Nat.le_refl _) (.cells zEn.cells.toArray 37))
  have hz : s.size = 97 := by rw [← hl, ← hL]; simp
  have HT : Hid (∀ W, Calls Tryz.prog 37 #[.string s, .int .i64 0] W fun e w' => e = .returned (.tuple #[.agg (enOf l hl).h.cells.toArray, .int .i64 0]) ∧ Below W.heap.size W w') := fun W => by
    have := rtakeHead_any s hs 0 W
    rw [show tkA s 0 = ((enOf l hl).h, 0) by rw [tkA, if_neg (by omega), show s.data.toList.drop (0 : Int).toNat = l by rw [hL]; rfl, tkH, dif_pos (by omega)]; rfl] at this
    exact this
  have HF : ∀ k, k + 4 ≤ 97 → ∀ W, Calls Tryz.prog 38 #[.string (s.extract k (k + 4))] W fun e w' => e = .returned (.int .u64 (leN ((l.drop k).take 4) : Int)) ∧ Below W.heap.size W w' := fun k hk W => by
    have := get_any (s.extract k (k + 4)) W (by simp; omega)
    rw [ext_mid, hL, show k + 4 - k = 4 by omega] at this
    refine this.mono ?_
    rintro e w' ⟨rfl, rfl⟩
    exact ⟨rfl, Below.refl _ _⟩
  have WW : ∀ k, wrap64 (leN ((l.drop k).take 4) : Int) = (leN ((l.drop k).take 4) : Int) := fun k => by
    have : leN ((l.drop k).take 4) < 4294967296 := leN_lt' _ 4 _ (by simp; omega) rfl
    unfold wrap64
    omega
  have WI : ∀ k, IntKind.i64.wrap (leN ((l.drop k).take 4) : Int) = (leN ((l.drop k).take 4) : Int) := fun k => by
    have : leN ((l.drop k).take 4) < 4294967296 := leN_lt' _ 4 _ (by simp; omega) rfl
    exact wrapI _ (by omega) (by omega)
  have x1 := WW 80
  have x3 := WW 85
  have x4 := WW 89
  have x5 := WW 93
  have y1 : IntKind.i64.wrap (leN ((l.drop 80).take 4) : Int) = (leN ((l.drop 80).take 4) : Int) := WI 80
  have y3 : IntKind.i64.wrap (leN ((l.drop 85).take 4) : Int) = (leN ((l.drop 85).take 4) : Int) := WI 85
  have y4 : IntKind.i64.wrap (leN ((l.drop 89).take 4) : Int) = (leN ((l.drop 89).take 4) : Int) := WI 89
  have y5 : IntKind.i64.wrap (leN ((l.drop 93).take 4) : Int) = (leN ((l.drop 93).take 4) : Int) := WI 93
  have H1 := hide (HF 80 (by omega))
  have H3 := hide (HF 85 (by omega))
  have H4 := hide (HF 89 (by omega))
  have H5 := hide (HF 93 (by omega))
  have HM := hide (fun W => rmay_any (enOf l hl) W)
  have HB : Hid (∀ W, (Instr.build 37 #[(0, .agg (enOf l hl).h.cells.toArray), (1, .int .i64 (leN ((l.drop 80).take 4) : Int)), (2, .int .i64 ((l.getD 84 0).toNat : Int)), (3, .int .i64 (leN ((l.drop 85).take 4) : Int)), (4, .int .i64 (leN ((l.drop 89).take 4) : Int)), (5, .int .i64 (leN ((l.drop 93).take 4) : Int))]).run Tryz.prog W = .ok (.agg (enOf l hl).cells.toArray) W) := fun W => bld_rEn (enOf l hl) W
  have k6 : 84 < s.size := by omega
  have E84 : ((s[84]'k6).toNat : Int) = ((l.getD 84 0).toNat : Int) := by
    subst hL
    rw [List.getD_eq_getElem?_getD, List.getElem?_eq_getElem (by omega)]
    rfl
  have W84 : IntKind.i64.wrap ((l.getD 84 0).toNat : Int) = ((l.getD 84 0).toNat : Int) := wrapI _ (by omega) (by have := (l.getD 84 0).toNat_lt; omega)
  have EV : Hid (tkE l = if (enOf l hl).may = true then (enOf l hl, 0) else (zEn, 130)) := by show _ = _; rw [tkE, dif_pos hl]
  have q1 : ¬ (s.size : Int) < 97 := by omega
  have q2 : ¬ (s.size : Int) > 97 := by omega
  have q3 : ¬ (97 : Int) < (s.size : Int) := by omega
  have k1 : (80 : Int) ≤ s.size := by omega
  have k2 : (84 : Int) < s.size := by omega
  have k3 : (85 : Int) ≤ s.size := by omega
  have k4 : (89 : Int) ≤ s.size := by omega
  have k5 : (93 : Int) ≤ s.size := by omega
  have k7 : (97 : Int) ≤ s.size := by omega
  have k8 : (84 : Int) ≤ s.size := by omega
  have HZ := hide (enOf l hl).size
  have HA := hide (enOf l hl).all
  have HZ2 := hide (enOf l hl).h.size
  have HA2 := hide (enOf l hl).h.all
  clear HF WW WI hz
  generalize (enOf l hl).may = MY at *
  generalize (enOf l hl).h.cells.toArray = CH at *
  generalize enOf l hl = X at *
  generalize leN ((l.drop 80).take 4) = N1 at *
  generalize leN ((l.drop 85).take 4) = N3 at *
  generalize leN ((l.drop 89).take 4) = N4 at *
  generalize leN ((l.drop 93).take 4) = N5 at *
  generalize ((l.getD 84 0).toNat : Int) = N2 at *
  clear hL hs
  go_enter Tryz.func9, Tryz.ntmps9
  go_upto_region 1 with ((with_reducible refine at_list ?_); refine wpList_allocA AEr rfl rfl ?_)
  generalize w.alloc (.cells zEn.cells.toArray 37) = W0 at *
  go_upto_region 5 with fail
  go_upto_region 6 with (first | (go_at_call 37; refine (HT.out _).mono ?_; rintro r W1 ⟨rfl, be⟩; have D1 := hide be; clear be) | ((with_reducible refine at_list ?_); first | refine wpList_allocA AHr rfl rfl ?_ | refine wpList_store_newA AHr rfl _ _ rfl _ rfl CH HZ2.out HA2.out rfl rfl ?_))
  have b2 := (Below.refl W1.heap.size W1).alloc (Nat.le_refl _) (.cells CH 35)
  have D2 := hide (below_next D1.out b2)
  have R4 := hide (heap_alloc_last W1 (.cells CH 35))
  have R1b := hide ((D2.out.block _ (lt_heap R1.out)).trans R1.out)
  clear b2 D1 R1
  generalize W1.alloc (.cells CH 35) = W2 at *
  generalize W1.heap.size = g4 at *
  have BW2 := hide (below_next B1.out D2.out)
  generalize hCX : X.cells.toArray = CX at *
  have HCX := hide hCX
  clear hCX
  have DV1 := hide ((Below.refl W2.heap.size W2).drew)
  refine wp_region_held_drew (S := fun W => Below W2.heap.size W2 W) (by kernel_rfl) DV1.out (fun hH => ?_)
  generalize hWd : W2.drew = V1 at *
  clear hWd
  refine wpAnyH_take (i := 0) (v := (.agg CH)) rfl (by kernel_rfl) (by kernel_rfl) (by kernel_rfl) (fun _ _ _ h => h) (yl_load (by rfl) _ (by rfl) _ CH (by rfl) (fun W hS => ld_row AHr HZ2.out ((hS.block _ (lt_heap R4.out)).trans R4.out))) hH ?_
  change wpAnyH _ _ _ _ _ _ _ (Act.put _ (some 20) _) _
  simp only [Act.put, List.setIfInBounds_toArray, List.set_cons_zero, List.set_cons_succ]
  refine wpAnyH_take (i := 1) (v := (.string s)) rfl (by kernel_rfl) (by kernel_rfl) (by kernel_rfl) (fun _ _ _ h => h) (yl_move (by rfl) _ (by rfl) _ (by rfl)) hH ?_
  change wpAnyH _ _ _ _ _ _ _ (Act.put _ (some 21) _) _
  simp only [Act.put, List.setIfInBounds_toArray, List.set_cons_zero, List.set_cons_succ]
  refine wpAnyH_take (i := 2) (v := (.string (s.extract 80 84))) rfl (by kernel_rfl) (by kernel_rfl) (by kernel_rfl) (fun _ _ _ h => h) (.inl ⟨by rfl, fun W _ => by go_simp⟩) hH ?_
  change wpAnyH _ _ _ _ _ _ _ (Act.put _ (some 22) _) _
  simp only [Act.put, List.setIfInBounds_toArray, List.set_cons_zero, List.set_cons_succ]
  refine wpAnyH_take (i := 5) (v := (.string s)) rfl (by kernel_rfl) (by kernel_rfl) (by kernel_rfl) (fun _ _ _ h => h) (yl_move (by rfl) _ (by rfl) _ (by rfl)) hH ?_
  change wpAnyH _ _ _ _ _ _ _ (Act.put _ (some 25) _) _
  simp only [Act.put, List.setIfInBounds_toArray, List.set_cons_zero, List.set_cons_succ]
  refine wpAnyH_take (i := 6) (v := (.int .u8 ((s[84]'k6).toNat : Int))) rfl (by kernel_rfl) (by kernel_rfl) (by kernel_rfl) (fun _ _ _ h => h) (.inl ⟨by rfl, fun W _ => by go_simp⟩) hH ?_
  change wpAnyH _ _ _ _ _ _ _ (Act.put _ (some 26) _) _
  simp only [Act.put, List.setIfInBounds_toArray, List.set_cons_zero, List.set_cons_succ]
  refine wpAnyH_take (i := 7) (v := (.int .i64 N2)) rfl (by kernel_rfl) (by kernel_rfl) (by kernel_rfl) (fun _ _ _ h => h) (.inl ⟨by rfl, fun W _ => by go_simp⟩) hH ?_
  change wpAnyH _ _ _ _ _ _ _ (Act.put _ (some 27) _) _
  simp only [Act.put, List.setIfInBounds_toArray, List.set_cons_zero, List.set_cons_succ]
  refine wpAnyH_take (i := 8) (v := (.string s)) rfl (by kernel_rfl) (by kernel_rfl) (by kernel_rfl) (fun _ _ _ h => h) (yl_move (by rfl) _ (by rfl) _ (by rfl)) hH ?_
  change wpAnyH _ _ _ _ _ _ _ (Act.put _ (some 28) _) _
  simp only [Act.put, List.setIfInBounds_toArray, List.set_cons_zero, List.set_cons_succ]
  refine wpAnyH_take (i := 9) (v := (.string (s.extract 85 89))) rfl (by kernel_rfl) (by kernel_rfl) (by kernel_rfl) (fun _ _ _ h => h) (.inl ⟨by rfl, fun W _ => by go_simp⟩) hH ?_
  change wpAnyH _ _ _ _ _ _ _ (Act.put _ (some 29) _) _
  simp only [Act.put, List.setIfInBounds_toArray, List.set_cons_zero, List.set_cons_succ]
  refine wpAnyH_take (i := 12) (v := (.string s)) rfl (by kernel_rfl) (by kernel_rfl) (by kernel_rfl) (fun _ _ _ h => h) (yl_move (by rfl) _ (by rfl) _ (by rfl)) hH ?_
  change wpAnyH _ _ _ _ _ _ _ (Act.put _ (some 32) _) _
  simp only [Act.put, List.setIfInBounds_toArray, List.set_cons_zero, List.set_cons_succ]
  refine wpAnyH_take (i := 13) (v := (.string (s.extract 89 93))) rfl (by kernel_rfl) (by kernel_rfl) (by kernel_rfl) (fun _ _ _ h => h) (.inl ⟨by rfl, fun W _ => by go_simp⟩) hH ?_
  change wpAnyH _ _ _ _ _ _ _ (Act.put _ (some 33) _) _
  simp only [Act.put, List.setIfInBounds_toArray, List.set_cons_zero, List.set_cons_succ]
  refine wpAnyH_take (i := 16) (v := (.string s)) rfl (by kernel_rfl) (by kernel_rfl) (by kernel_rfl) (fun _ _ _ h => h) (yl_move (by rfl) _ (by rfl) _ (by rfl)) hH ?_
  change wpAnyH _ _ _ _ _ _ _ (Act.put _ (some 36) _) _
  simp only [Act.put, List.setIfInBounds_toArray, List.set_cons_zero, List.set_cons_succ]
  refine wpAnyH_take (i := 17) (v := (.string (s.extract 93 97))) rfl (by kernel_rfl) (by kernel_rfl) (by kernel_rfl) (fun _ _ _ h => h) (.inl ⟨by rfl, fun W _ => by go_simp⟩) hH ?_
  change wpAnyH _ _ _ _ _ _ _ (Act.put _ (some 37) _) _
  simp only [Act.put, List.setIfInBounds_toArray, List.set_cons_zero, List.set_cons_succ]
  --TREE
  refine wpAnyH_ready (rs := [3, 21]) (by kernel_rfl) (by simp) (AllReadyH.cons rfl (fun K1 hK1 => ?_) (AllReadyH.cons rfl (fun K1 hK1 => ?_) AllReadyH.nil))
  · go_simp
    refine (H1.out V1).mono ?_
    rintro r V2 ⟨rfl, be⟩
    have DV2 := hide (below_next DV1.out be)
    clear be
    refine hK1.out _ _ DV2.out (fun hH => ?_)
    clear hK1
    refine wpAnyH_take (i := 4) (v := (.int .i64 (N1 : Int))) rfl (by kernel_rfl) (by kernel_rfl) (by kernel_rfl) (fun _ _ _ h => h) (.inl ⟨by rfl, fun W _ => by go_simp⟩) hH ?_
    change wpAnyH _ _ _ _ _ _ _ (Act.put _ (some 24) _) _
    simp only [Act.put, List.setIfInBounds_toArray, List.set_cons_zero, List.set_cons_succ]
    refine wpAnyH_ready (rs := [10, 21]) (by kernel_rfl) (by simp) (AllReadyH.cons rfl (fun K1 hK1 => ?_) (AllReadyH.cons rfl (fun K1 hK1 => ?_) AllReadyH.nil))
    · go_simp
      refine (H3.out V2).mono ?_
      rintro r V3 ⟨rfl, be⟩
      have DV3 := hide (below_next DV2.out be)
      clear be
      refine hK1.out _ _ DV3.out (fun hH => ?_)
      clear hK1
      refine wpAnyH_take (i := 11) (v := (.int .i64 (N3 : Int))) rfl (by kernel_rfl) (by kernel_rfl) (by kernel_rfl) (fun _ _ _ h => h) (.inl ⟨by rfl, fun W _ => by go_simp⟩) hH ?_
      change wpAnyH _ _ _ _ _ _ _ (Act.put _ (some 31) _) _
      simp only [Act.put, List.setIfInBounds_toArray, List.set_cons_zero, List.set_cons_succ]
      refine wpAnyH_ready (rs := [14, 21]) (by kernel_rfl) (by simp) (AllReadyH.cons rfl (fun K1 hK1 => ?_) (AllReadyH.cons rfl (fun K1 hK1 => ?_) AllReadyH.nil))
      · go_simp
        refine (H4.out V3).mono ?_
        rintro r V4 ⟨rfl, be⟩
        have DV4 := hide (below_next DV3.out be)
        clear be
        refine hK1.out _ _ DV4.out (fun hH => ?_)
        clear hK1
        refine wpAnyH_take (i := 15) (v := (.int .i64 (N4 : Int))) rfl (by kernel_rfl) (by kernel_rfl) (by kernel_rfl) (fun _ _ _ h => h) (.inl ⟨by rfl, fun W _ => by go_simp⟩) hH ?_
        change wpAnyH _ _ _ _ _ _ _ (Act.put _ (some 35) _) _
        simp only [Act.put, List.setIfInBounds_toArray, List.set_cons_zero, List.set_cons_succ]
        refine wpAnyH_ready (rs := [18, 21]) (by kernel_rfl) (by simp) (AllReadyH.cons rfl (fun K1 hK1 => ?_) (AllReadyH.cons rfl (fun K1 hK1 => ?_) AllReadyH.nil))
        · go_simp
          refine (H5.out V4).mono ?_
          rintro r V5 ⟨rfl, be⟩
          have DV5 := hide (below_next DV4.out be)
          clear be
          refine hK1.out _ _ DV5.out (fun hH => ?_)
          clear hK1
          refine wpAnyH_take (i := 19) (v := (.int .i64 (N5 : Int))) rfl (by kernel_rfl) (by kernel_rfl) (by kernel_rfl) (fun _ _ _ h => h) (.inl ⟨by rfl, fun W _ => by go_simp⟩) hH ?_
          change wpAnyH _ _ _ _ _ _ _ (Act.put _ (some 39) _) _
          simp only [Act.put, List.setIfInBounds_toArray, List.set_cons_zero, List.set_cons_succ]
          refine wpAnyH_take (i := 20) (v := (.agg CX)) rfl (by kernel_rfl) (by kernel_rfl) (by kernel_rfl) (fun _ _ _ h => h) (yl_build (by rfl) _ (by rfl) #[(0, .agg CH), (1, .int .i64 (N1 : Int)), (2, .int .i64 N2), (3, .int .i64 (N3 : Int)), (4, .int .i64 (N4 : Int)), (5, .int .i64 (N5 : Int))] _ (by simp only [List.map_toArray, List.map_cons, List.map_nil]; rfl) HB.out) hH ?_
          change wpAnyH _ _ _ _ _ _ _ (Act.put _ (some 40) _) _
          simp only [Act.put, List.setIfInBounds_toArray, List.set_cons_zero, List.set_cons_succ]
          refine wpAnyH_ready (rs := [21]) (by kernel_rfl) (by simp) (AllReadyH.cons rfl (fun K1 hK1 => ?_) AllReadyH.nil)
          refine stepAllocA AEr (by rfl) (by rfl) ?_
          have ba := (Below.refl V5.heap.size V5).alloc (Nat.le_refl _) (.cells zEn.cells.toArray 37)
          have DV6 := hide (below_next DV5.out ba)
          have RN6 := hide (heap_alloc_last V5 (.cells zEn.cells.toArray 37))
          have GN : Hid (W2.heap.size ≤ V5.heap.size) := DV5.out.size
          refine hK1.out _ _ DV6.out (fun hH => ?_)
          clear hK1 ba
          change wpAnyH _ _ _ _ _ _ _ (Act.put _ (some 6) _) _
          simp only [Act.put, List.setIfInBounds_toArray, List.set_cons_zero, List.set_cons_succ]
          generalize V5.alloc (.cells zEn.cells.toArray 37) = V6 at *
          generalize V5.heap.size = gN at *
          have DVf := hide DV6.out
          refine wpAnyH_ready (rs := [22]) (by kernel_rfl) (by simp) (AllReadyH.cons rfl (fun K1 hK1 => ?_) AllReadyH.nil)
          refine stepStoreA AEr (by rfl) _ _ (by rfl) gN CX HZ.out HA.out (by rfl) (by rfl) zEn.cells.toArray zEn.size 37 RN6.out ?_
          refine hK1.out _ _ (below_setRow DV6.out GN.out _) (fun hH => ?_)
          clear hK1
          change wpAnyH _ _ _ _ _ _ _ (Act.put _ none _) _
          simp only [Act.put]
          refine wpAnyH_done (by kernel_rfl) ?_ _
          clear hH
          have R7 := hide (setRow_heap V6 gN _ CX _ _ RN6.out)
          have R8 := hide ((setRow_other V6 gN w.heap.size CX (by have h1 := GN.out; have h2 := lt_heap R1b.out; omega)).trans ((DV6.out.block _ (lt_heap R1b.out)).trans R1b.out))
          have B8 := hide (below_next BW2.out (below_setRow DV6.out GN.out CX))
          generalize V6.setRow gN CX = V9 at *
          cases MY
          · go_wp2_with (first | (go_at_call 12; refine (HM.out _).mono ?_; rintro r V10 ⟨rfl, be⟩; have R9 := hide ((be.block _ (lt_heap R8.out)).trans R8.out); have B9 := hide (below_next B8.out be); clear be) | ((with_reducible refine at_list ?_); first | refine wpList_loadS AEr _ rfl gN rfl CX HZ.out 37 R7.out (by rfl) ?_ | refine wpList_buildA AEr rfl rfl ?_ | refine wpList_storeA AEr rfl _ _ rfl w.heap.size zEn.cells.toArray zEn.size zEn.all rfl rfl zEn.cells.toArray zEn.size 37 R9.out ?_))
            exact bodyPost_ret (v := .tuple #[.agg zEn.cells.toArray, .int .i64 130]) (resA2K AEr Tryz.results9 _ _ w.heap.size 37 _ zEn.size rfl (setRow_heap _ _ _ _ _ _ R9.out) _ rfl) rfl ⟨by rw [EV.out]; rfl, below_setRow B9.out (Nat.le_refl _) _⟩
          · go_wp2_with (first | (go_at_call 12; refine (HM.out _).mono ?_; rintro r V10 ⟨rfl, be⟩; have R9 := hide ((be.block _ (lt_heap R8.out)).trans R8.out); have R10 := hide ((be.block _ (lt_heap R7.out)).trans R7.out); have B9 := hide (below_next B8.out be); clear be) | ((with_reducible refine at_list ?_); first | refine wpList_loadS AEr _ rfl gN rfl CX HZ.out 37 R7.out (by rfl) ?_ | refine wpList_loadS AEr _ rfl gN rfl CX HZ.out 37 R10.out (by rfl) ?_ | refine wpList_storeA AEr rfl _ _ rfl w.heap.size CX HZ.out HA.out rfl rfl zEn.cells.toArray zEn.size 37 R9.out ?_))
            exact bodyPost_ret (v := .tuple #[.agg CX, .int .i64 0]) (resA2K AEr Tryz.results9 _ _ w.heap.size 37 _ HZ.out rfl (setRow_heap _ _ _ _ _ _ R9.out) _ rfl) rfl ⟨by rw [EV.out, ← HCX.out]; rfl, below_setRow B9.out (Nat.le_refl _) _⟩
        · refine stepAllocA AEr (by rfl) (by rfl) ?_
          have ba := (Below.refl V4.heap.size V4).alloc (Nat.le_refl _) (.cells zEn.cells.toArray 37)
          have DV5 := hide (below_next DV4.out ba)
          have RN5 := hide (heap_alloc_last V4 (.cells zEn.cells.toArray 37))
          have GN : Hid (W2.heap.size ≤ V4.heap.size) := DV4.out.size
          refine hK1.out _ _ DV5.out (fun hH => ?_)
          clear hK1 ba
          change wpAnyH _ _ _ _ _ _ _ (Act.put _ (some 6) _) _
          simp only [Act.put, List.setIfInBounds_toArray, List.set_cons_zero, List.set_cons_succ]
          generalize V4.alloc (.cells zEn.cells.toArray 37) = V5 at *
          generalize V4.heap.size = gN at *
          refine wpAnyH_ready (rs := [18]) (by kernel_rfl) (by simp) (AllReadyH.cons rfl (fun K1 hK1 => ?_) AllReadyH.nil)
          go_simp
          refine (H5.out V5).mono ?_
          rintro r V6 ⟨rfl, be⟩
          have DV6 := hide (below_next DV5.out be)
          have RN6 := hide ((be.block _ (lt_heap RN5.out)).trans RN5.out)
          clear be
          refine hK1.out _ _ DV6.out (fun hH => ?_)
          clear hK1
          refine wpAnyH_take (i := 19) (v := (.int .i64 (N5 : Int))) rfl (by kernel_rfl) (by kernel_rfl) (by kernel_rfl) (fun _ _ _ h => h) (.inl ⟨by rfl, fun W _ => by go_simp⟩) hH ?_
          change wpAnyH _ _ _ _ _ _ _ (Act.put _ (some 39) _) _
          simp only [Act.put, List.setIfInBounds_toArray, List.set_cons_zero, List.set_cons_succ]
          refine wpAnyH_take (i := 20) (v := (.agg CX)) rfl (by kernel_rfl) (by kernel_rfl) (by kernel_rfl) (fun _ _ _ h => h) (yl_build (by rfl) _ (by rfl) #[(0, .agg CH), (1, .int .i64 (N1 : Int)), (2, .int .i64 N2), (3, .int .i64 (N3 : Int)), (4, .int .i64 (N4 : Int)), (5, .int .i64 (N5 : Int))] _ (by simp only [List.map_toArray, List.map_cons, List.map_nil]; rfl) HB.out) hH ?_
          change wpAnyH _ _ _ _ _ _ _ (Act.put _ (some 40) _) _
          simp only [Act.put, List.setIfInBounds_toArray, List.set_cons_zero, List.set_cons_succ]
          have DVf := hide DV6.out
          refine wpAnyH_ready (rs := [22]) (by kernel_rfl) (by simp) (AllReadyH.cons rfl (fun K1 hK1 => ?_) AllReadyH.nil)
          refine stepStoreA AEr (by rfl) _ _ (by rfl) gN CX HZ.out HA.out (by rfl) (by rfl) zEn.cells.toArray zEn.size 37 RN6.out ?_
          refine hK1.out _ _ (below_setRow DV6.out GN.out _) (fun hH => ?_)
          clear hK1
          change wpAnyH _ _ _ _ _ _ _ (Act.put _ none _) _
          simp only [Act.put]
          refine wpAnyH_done (by kernel_rfl) ?_ _
          clear hH
          have R7 := hide (setRow_heap V6 gN _ CX _ _ RN6.out)
          have R8 := hide ((setRow_other V6 gN w.heap.size CX (by have h1 := GN.out; have h2 := lt_heap R1b.out; omega)).trans ((DV6.out.block _ (lt_heap R1b.out)).trans R1b.out))
          have B8 := hide (below_next BW2.out (below_setRow DV6.out GN.out CX))
          generalize V6.setRow gN CX = V9 at *
          cases MY
          · go_wp2_with (first | (go_at_call 12; refine (HM.out _).mono ?_; rintro r V10 ⟨rfl, be⟩; have R9 := hide ((be.block _ (lt_heap R8.out)).trans R8.out); have B9 := hide (below_next B8.out be); clear be) | ((with_reducible refine at_list ?_); first | refine wpList_loadS AEr _ rfl gN rfl CX HZ.out 37 R7.out (by rfl) ?_ | refine wpList_buildA AEr rfl rfl ?_ | refine wpList_storeA AEr rfl _ _ rfl w.heap.size zEn.cells.toArray zEn.size zEn.all rfl rfl zEn.cells.toArray zEn.size 37 R9.out ?_))
            exact bodyPost_ret (v := .tuple #[.agg zEn.cells.toArray, .int .i64 130]) (resA2K AEr Tryz.results9 _ _ w.heap.size 37 _ zEn.size rfl (setRow_heap _ _ _ _ _ _ R9.out) _ rfl) rfl ⟨by rw [EV.out]; rfl, below_setRow B9.out (Nat.le_refl _) _⟩
          · go_wp2_with (first | (go_at_call 12; refine (HM.out _).mono ?_; rintro r V10 ⟨rfl, be⟩; have R9 := hide ((be.block _ (lt_heap R8.out)).trans R8.out); have R10 := hide ((be.block _ (lt_heap R7.out)).trans R7.out); have B9 := hide (below_next B8.out be); clear be) | ((with_reducible refine at_list ?_); first | refine wpList_loadS AEr _ rfl gN rfl CX HZ.out 37 R7.out (by rfl) ?_ | refine wpList_loadS AEr _ rfl gN rfl CX HZ.out 37 R10.out (by rfl) ?_ | refine wpList_storeA AEr rfl _ _ rfl w.heap.size CX HZ.out HA.out rfl rfl zEn.cells.toArray zEn.size 37 R9.out ?_))
            exact bodyPost_ret (v := .tuple #[.agg CX, .int .i64 0]) (resA2K AEr Tryz.results9 _ _ w.heap.size 37 _ HZ.out rfl (setRow_heap _ _ _ _ _ _ R9.out) _ rfl) rfl ⟨by rw [EV.out, ← HCX.out]; rfl, below_setRow B9.out (Nat.le_refl _) _⟩
      · refine stepAllocA AEr (by rfl) (by rfl) ?_
        have ba := (Below.refl V3.heap.size V3).alloc (Nat.le_refl _) (.cells zEn.cells.toArray 37)
        have DV4 := hide (below_next DV3.out ba)
        have RN4 := hide (heap_alloc_last V3 (.cells zEn.cells.toArray 37))
        have GN : Hid (W2.heap.size ≤ V3.heap.size) := DV3.out.size
        refine hK1.out _ _ DV4.out (fun hH => ?_)
        clear hK1 ba
        change wpAnyH _ _ _ _ _ _ _ (Act.put _ (some 6) _) _
        simp only [Act.put, List.setIfInBounds_toArray, List.set_cons_zero, List.set_cons_succ]
        generalize V3.alloc (.cells zEn.cells.toArray 37) = V4 at *
        generalize V3.heap.size = gN at *
        refine wpAnyH_ready (rs := [14]) (by kernel_rfl) (by simp) (AllReadyH.cons rfl (fun K1 hK1 => ?_) AllReadyH.nil)
        go_simp
        refine (H4.out V4).mono ?_
        rintro r V5 ⟨rfl, be⟩
        have DV5 := hide (below_next DV4.out be)
        have RN5 := hide ((be.block _ (lt_heap RN4.out)).trans RN4.out)
        clear be
        refine hK1.out _ _ DV5.out (fun hH => ?_)
        clear hK1
        refine wpAnyH_take (i := 15) (v := (.int .i64 (N4 : Int))) rfl (by kernel_rfl) (by kernel_rfl) (by kernel_rfl) (fun _ _ _ h => h) (.inl ⟨by rfl, fun W _ => by go_simp⟩) hH ?_
        change wpAnyH _ _ _ _ _ _ _ (Act.put _ (some 35) _) _
        simp only [Act.put, List.setIfInBounds_toArray, List.set_cons_zero, List.set_cons_succ]
        refine wpAnyH_ready (rs := [18]) (by kernel_rfl) (by simp) (AllReadyH.cons rfl (fun K1 hK1 => ?_) AllReadyH.nil)
        go_simp
        refine (H5.out V5).mono ?_
        rintro r V6 ⟨rfl, be⟩
        have DV6 := hide (below_next DV5.out be)
        have RN6 := hide ((be.block _ (lt_heap RN5.out)).trans RN5.out)
        clear be
        refine hK1.out _ _ DV6.out (fun hH => ?_)
        clear hK1
        refine wpAnyH_take (i := 19) (v := (.int .i64 (N5 : Int))) rfl (by kernel_rfl) (by kernel_rfl) (by kernel_rfl) (fun _ _ _ h => h) (.inl ⟨by rfl, fun W _ => by go_simp⟩) hH ?_
        change wpAnyH _ _ _ _ _ _ _ (Act.put _ (some 39) _) _
        simp only [Act.put, List.setIfInBounds_toArray, List.set_cons_zero, List.set_cons_succ]
        refine wpAnyH_take (i := 20) (v := (.agg CX)) rfl (by kernel_rfl) (by kernel_rfl) (by kernel_rfl) (fun _ _ _ h => h) (yl_build (by rfl) _ (by rfl) #[(0, .agg CH), (1, .int .i64 (N1 : Int)), (2, .int .i64 N2), (3, .int .i64 (N3 : Int)), (4, .int .i64 (N4 : Int)), (5, .int .i64 (N5 : Int))] _ (by simp only [List.map_toArray, List.map_cons, List.map_nil]; rfl) HB.out) hH ?_
        change wpAnyH _ _ _ _ _ _ _ (Act.put _ (some 40) _) _
        simp only [Act.put, List.setIfInBounds_toArray, List.set_cons_zero, List.set_cons_succ]
        have DVf := hide DV6.out
        refine wpAnyH_ready (rs := [22]) (by kernel_rfl) (by simp) (AllReadyH.cons rfl (fun K1 hK1 => ?_) AllReadyH.nil)
        refine stepStoreA AEr (by rfl) _ _ (by rfl) gN CX HZ.out HA.out (by rfl) (by rfl) zEn.cells.toArray zEn.size 37 RN6.out ?_
        refine hK1.out _ _ (below_setRow DV6.out GN.out _) (fun hH => ?_)
        clear hK1
        change wpAnyH _ _ _ _ _ _ _ (Act.put _ none _) _
        simp only [Act.put]
        refine wpAnyH_done (by kernel_rfl) ?_ _
        clear hH
        have R7 := hide (setRow_heap V6 gN _ CX _ _ RN6.out)
        have R8 := hide ((setRow_other V6 gN w.heap.size CX (by have h1 := GN.out; have h2 := lt_heap R1b.out; omega)).trans ((DV6.out.block _ (lt_heap R1b.out)).trans R1b.out))
        have B8 := hide (below_next BW2.out (below_setRow DV6.out GN.out CX))
        generalize V6.setRow gN CX = V9 at *
        cases MY
        · go_wp2_with (first | (go_at_call 12; refine (HM.out _).mono ?_; rintro r V10 ⟨rfl, be⟩; have R9 := hide ((be.block _ (lt_heap R8.out)).trans R8.out); have B9 := hide (below_next B8.out be); clear be) | ((with_reducible refine at_list ?_); first | refine wpList_loadS AEr _ rfl gN rfl CX HZ.out 37 R7.out (by rfl) ?_ | refine wpList_buildA AEr rfl rfl ?_ | refine wpList_storeA AEr rfl _ _ rfl w.heap.size zEn.cells.toArray zEn.size zEn.all rfl rfl zEn.cells.toArray zEn.size 37 R9.out ?_))
          exact bodyPost_ret (v := .tuple #[.agg zEn.cells.toArray, .int .i64 130]) (resA2K AEr Tryz.results9 _ _ w.heap.size 37 _ zEn.size rfl (setRow_heap _ _ _ _ _ _ R9.out) _ rfl) rfl ⟨by rw [EV.out]; rfl, below_setRow B9.out (Nat.le_refl _) _⟩
        · go_wp2_with (first | (go_at_call 12; refine (HM.out _).mono ?_; rintro r V10 ⟨rfl, be⟩; have R9 := hide ((be.block _ (lt_heap R8.out)).trans R8.out); have R10 := hide ((be.block _ (lt_heap R7.out)).trans R7.out); have B9 := hide (below_next B8.out be); clear be) | ((with_reducible refine at_list ?_); first | refine wpList_loadS AEr _ rfl gN rfl CX HZ.out 37 R7.out (by rfl) ?_ | refine wpList_loadS AEr _ rfl gN rfl CX HZ.out 37 R10.out (by rfl) ?_ | refine wpList_storeA AEr rfl _ _ rfl w.heap.size CX HZ.out HA.out rfl rfl zEn.cells.toArray zEn.size 37 R9.out ?_))
          exact bodyPost_ret (v := .tuple #[.agg CX, .int .i64 0]) (resA2K AEr Tryz.results9 _ _ w.heap.size 37 _ HZ.out rfl (setRow_heap _ _ _ _ _ _ R9.out) _ rfl) rfl ⟨by rw [EV.out, ← HCX.out]; rfl, below_setRow B9.out (Nat.le_refl _) _⟩
    · refine stepAllocA AEr (by rfl) (by rfl) ?_
      have ba := (Below.refl V2.heap.size V2).alloc (Nat.le_refl _) (.cells zEn.cells.toArray 37)
      have DV3 := hide (below_next DV2.out ba)
      have RN3 := hide (heap_alloc_last V2 (.cells zEn.cells.toArray 37))
      have GN : Hid (W2.heap.size ≤ V2.heap.size) := DV2.out.size
      refine hK1.out _ _ DV3.out (fun hH => ?_)
      clear hK1 ba
      change wpAnyH _ _ _ _ _ _ _ (Act.put _ (some 6) _) _
      simp only [Act.put, List.setIfInBounds_toArray, List.set_cons_zero, List.set_cons_succ]
      generalize V2.alloc (.cells zEn.cells.toArray 37) = V3 at *
      generalize V2.heap.size = gN at *
      refine wpAnyH_ready (rs := [10]) (by kernel_rfl) (by simp) (AllReadyH.cons rfl (fun K1 hK1 => ?_) AllReadyH.nil)
      go_simp
      refine (H3.out V3).mono ?_
      rintro r V4 ⟨rfl, be⟩
      have DV4 := hide (below_next DV3.out be)
      have RN4 := hide ((be.block _ (lt_heap RN3.out)).trans RN3.out)
      clear be
      refine hK1.out _ _ DV4.out (fun hH => ?_)
      clear hK1
      refine wpAnyH_take (i := 11) (v := (.int .i64 (N3 : Int))) rfl (by kernel_rfl) (by kernel_rfl) (by kernel_rfl) (fun _ _ _ h => h) (.inl ⟨by rfl, fun W _ => by go_simp⟩) hH ?_
      change wpAnyH _ _ _ _ _ _ _ (Act.put _ (some 31) _) _
      simp only [Act.put, List.setIfInBounds_toArray, List.set_cons_zero, List.set_cons_succ]
      refine wpAnyH_ready (rs := [14]) (by kernel_rfl) (by simp) (AllReadyH.cons rfl (fun K1 hK1 => ?_) AllReadyH.nil)
      go_simp
      refine (H4.out V4).mono ?_
      rintro r V5 ⟨rfl, be⟩
      have DV5 := hide (below_next DV4.out be)
      have RN5 := hide ((be.block _ (lt_heap RN4.out)).trans RN4.out)
      clear be
      refine hK1.out _ _ DV5.out (fun hH => ?_)
      clear hK1
      refine wpAnyH_take (i := 15) (v := (.int .i64 (N4 : Int))) rfl (by kernel_rfl) (by kernel_rfl) (by kernel_rfl) (fun _ _ _ h => h) (.inl ⟨by rfl, fun W _ => by go_simp⟩) hH ?_
      change wpAnyH _ _ _ _ _ _ _ (Act.put _ (some 35) _) _
      simp only [Act.put, List.setIfInBounds_toArray, List.set_cons_zero, List.set_cons_succ]
      refine wpAnyH_ready (rs := [18]) (by kernel_rfl) (by simp) (AllReadyH.cons rfl (fun K1 hK1 => ?_) AllReadyH.nil)
      go_simp
      refine (H5.out V5).mono ?_
      rintro r V6 ⟨rfl, be⟩
      have DV6 := hide (below_next DV5.out be)
      have RN6 := hide ((be.block _ (lt_heap RN5.out)).trans RN5.out)
      clear be
      refine hK1.out _ _ DV6.out (fun hH => ?_)
      clear hK1
      refine wpAnyH_take (i := 19) (v := (.int .i64 (N5 : Int))) rfl (by kernel_rfl) (by kernel_rfl) (by kernel_rfl) (fun _ _ _ h => h) (.inl ⟨by rfl, fun W _ => by go_simp⟩) hH ?_
      change wpAnyH _ _ _ _ _ _ _ (Act.put _ (some 39) _) _
      simp only [Act.put, List.setIfInBounds_toArray, List.set_cons_zero, List.set_cons_succ]
      refine wpAnyH_take (i := 20) (v := (.agg CX)) rfl (by kernel_rfl) (by kernel_rfl) (by kernel_rfl) (fun _ _ _ h => h) (yl_build (by rfl) _ (by rfl) #[(0, .agg CH), (1, .int .i64 (N1 : Int)), (2, .int .i64 N2), (3, .int .i64 (N3 : Int)), (4, .int .i64 (N4 : Int)), (5, .int .i64 (N5 : Int))] _ (by simp only [List.map_toArray, List.map_cons, List.map_nil]; rfl) HB.out) hH ?_
      change wpAnyH _ _ _ _ _ _ _ (Act.put _ (some 40) _) _
      simp only [Act.put, List.setIfInBounds_toArray, List.set_cons_zero, List.set_cons_succ]
      have DVf := hide DV6.out
      refine wpAnyH_ready (rs := [22]) (by kernel_rfl) (by simp) (AllReadyH.cons rfl (fun K1 hK1 => ?_) AllReadyH.nil)
      refine stepStoreA AEr (by rfl) _ _ (by rfl) gN CX HZ.out HA.out (by rfl) (by rfl) zEn.cells.toArray zEn.size 37 RN6.out ?_
      refine hK1.out _ _ (below_setRow DV6.out GN.out _) (fun hH => ?_)
      clear hK1
      change wpAnyH _ _ _ _ _ _ _ (Act.put _ none _) _
      simp only [Act.put]
      refine wpAnyH_done (by kernel_rfl) ?_ _
      clear hH
      have R7 := hide (setRow_heap V6 gN _ CX _ _ RN6.out)
      have R8 := hide ((setRow_other V6 gN w.heap.size CX (by have h1 := GN.out; have h2 := lt_heap R1b.out; omega)).trans ((DV6.out.block _ (lt_heap R1b.out)).trans R1b.out))
      have B8 := hide (below_next BW2.out (below_setRow DV6.out GN.out CX))
      generalize V6.setRow gN CX = V9 at *
      cases MY
      · go_wp2_with (first | (go_at_call 12; refine (HM.out _).mono ?_; rintro r V10 ⟨rfl, be⟩; have R9 := hide ((be.block _ (lt_heap R8.out)).trans R8.out); have B9 := hide (below_next B8.out be); clear be) | ((with_reducible refine at_list ?_); first | refine wpList_loadS AEr _ rfl gN rfl CX HZ.out 37 R7.out (by rfl) ?_ | refine wpList_buildA AEr rfl rfl ?_ | refine wpList_storeA AEr rfl _ _ rfl w.heap.size zEn.cells.toArray zEn.size zEn.all rfl rfl zEn.cells.toArray zEn.size 37 R9.out ?_))
        exact bodyPost_ret (v := .tuple #[.agg zEn.cells.toArray, .int .i64 130]) (resA2K AEr Tryz.results9 _ _ w.heap.size 37 _ zEn.size rfl (setRow_heap _ _ _ _ _ _ R9.out) _ rfl) rfl ⟨by rw [EV.out]; rfl, below_setRow B9.out (Nat.le_refl _) _⟩
      · go_wp2_with (first | (go_at_call 12; refine (HM.out _).mono ?_; rintro r V10 ⟨rfl, be⟩; have R9 := hide ((be.block _ (lt_heap R8.out)).trans R8.out); have R10 := hide ((be.block _ (lt_heap R7.out)).trans R7.out); have B9 := hide (below_next B8.out be); clear be) | ((with_reducible refine at_list ?_); first | refine wpList_loadS AEr _ rfl gN rfl CX HZ.out 37 R7.out (by rfl) ?_ | refine wpList_loadS AEr _ rfl gN rfl CX HZ.out 37 R10.out (by rfl) ?_ | refine wpList_storeA AEr rfl _ _ rfl w.heap.size CX HZ.out HA.out rfl rfl zEn.cells.toArray zEn.size 37 R9.out ?_))
        exact bodyPost_ret (v := .tuple #[.agg CX, .int .i64 0]) (resA2K AEr Tryz.results9 _ _ w.heap.size 37 _ HZ.out rfl (setRow_heap _ _ _ _ _ _ R9.out) _ rfl) rfl ⟨by rw [EV.out, ← HCX.out]; rfl, below_setRow B9.out (Nat.le_refl _) _⟩
  · refine stepAllocA AEr (by rfl) (by rfl) ?_
    have ba := (Below.refl V1.heap.size V1).alloc (Nat.le_refl _) (.cells zEn.cells.toArray 37)
    have DV2 := hide (below_next DV1.out ba)
    have RN2 := hide (heap_alloc_last V1 (.cells zEn.cells.toArray 37))
    have GN : Hid (W2.heap.size ≤ V1.heap.size) := DV1.out.size
    refine hK1.out _ _ DV2.out (fun hH => ?_)
    clear hK1 ba
    change wpAnyH _ _ _ _ _ _ _ (Act.put _ (some 6) _) _
    simp only [Act.put, List.setIfInBounds_toArray, List.set_cons_zero, List.set_cons_succ]
    generalize V1.alloc (.cells zEn.cells.toArray 37) = V2 at *
    generalize V1.heap.size = gN at *
    refine wpAnyH_ready (rs := [3]) (by kernel_rfl) (by simp) (AllReadyH.cons rfl (fun K1 hK1 => ?_) AllReadyH.nil)
    go_simp
    refine (H1.out V2).mono ?_
    rintro r V3 ⟨rfl, be⟩
    have DV3 := hide (below_next DV2.out be)
    have RN3 := hide ((be.block _ (lt_heap RN2.out)).trans RN2.out)
    clear be
    refine hK1.out _ _ DV3.out (fun hH => ?_)
    clear hK1
    refine wpAnyH_take (i := 4) (v := (.int .i64 (N1 : Int))) rfl (by kernel_rfl) (by kernel_rfl) (by kernel_rfl) (fun _ _ _ h => h) (.inl ⟨by rfl, fun W _ => by go_simp⟩) hH ?_
    change wpAnyH _ _ _ _ _ _ _ (Act.put _ (some 24) _) _
    simp only [Act.put, List.setIfInBounds_toArray, List.set_cons_zero, List.set_cons_succ]
    refine wpAnyH_ready (rs := [10]) (by kernel_rfl) (by simp) (AllReadyH.cons rfl (fun K1 hK1 => ?_) AllReadyH.nil)
    go_simp
    refine (H3.out V3).mono ?_
    rintro r V4 ⟨rfl, be⟩
    have DV4 := hide (below_next DV3.out be)
    have RN4 := hide ((be.block _ (lt_heap RN3.out)).trans RN3.out)
    clear be
    refine hK1.out _ _ DV4.out (fun hH => ?_)
    clear hK1
    refine wpAnyH_take (i := 11) (v := (.int .i64 (N3 : Int))) rfl (by kernel_rfl) (by kernel_rfl) (by kernel_rfl) (fun _ _ _ h => h) (.inl ⟨by rfl, fun W _ => by go_simp⟩) hH ?_
    change wpAnyH _ _ _ _ _ _ _ (Act.put _ (some 31) _) _
    simp only [Act.put, List.setIfInBounds_toArray, List.set_cons_zero, List.set_cons_succ]
    refine wpAnyH_ready (rs := [14]) (by kernel_rfl) (by simp) (AllReadyH.cons rfl (fun K1 hK1 => ?_) AllReadyH.nil)
    go_simp
    refine (H4.out V4).mono ?_
    rintro r V5 ⟨rfl, be⟩
    have DV5 := hide (below_next DV4.out be)
    have RN5 := hide ((be.block _ (lt_heap RN4.out)).trans RN4.out)
    clear be
    refine hK1.out _ _ DV5.out (fun hH => ?_)
    clear hK1
    refine wpAnyH_take (i := 15) (v := (.int .i64 (N4 : Int))) rfl (by kernel_rfl) (by kernel_rfl) (by kernel_rfl) (fun _ _ _ h => h) (.inl ⟨by rfl, fun W _ => by go_simp⟩) hH ?_
    change wpAnyH _ _ _ _ _ _ _ (Act.put _ (some 35) _) _
    simp only [Act.put, List.setIfInBounds_toArray, List.set_cons_zero, List.set_cons_succ]
    refine wpAnyH_ready (rs := [18]) (by kernel_rfl) (by simp) (AllReadyH.cons rfl (fun K1 hK1 => ?_) AllReadyH.nil)
    go_simp
    refine (H5.out V5).mono ?_
    rintro r V6 ⟨rfl, be⟩
    have DV6 := hide (below_next DV5.out be)
    have RN6 := hide ((be.block _ (lt_heap RN5.out)).trans RN5.out)
    clear be
    refine hK1.out _ _ DV6.out (fun hH => ?_)
    clear hK1
    refine wpAnyH_take (i := 19) (v := (.int .i64 (N5 : Int))) rfl (by kernel_rfl) (by kernel_rfl) (by kernel_rfl) (fun _ _ _ h => h) (.inl ⟨by rfl, fun W _ => by go_simp⟩) hH ?_
    change wpAnyH _ _ _ _ _ _ _ (Act.put _ (some 39) _) _
    simp only [Act.put, List.setIfInBounds_toArray, List.set_cons_zero, List.set_cons_succ]
    refine wpAnyH_take (i := 20) (v := (.agg CX)) rfl (by kernel_rfl) (by kernel_rfl) (by kernel_rfl) (fun _ _ _ h => h) (yl_build (by rfl) _ (by rfl) #[(0, .agg CH), (1, .int .i64 (N1 : Int)), (2, .int .i64 N2), (3, .int .i64 (N3 : Int)), (4, .int .i64 (N4 : Int)), (5, .int .i64 (N5 : Int))] _ (by simp only [List.map_toArray, List.map_cons, List.map_nil]; rfl) HB.out) hH ?_
    change wpAnyH _ _ _ _ _ _ _ (Act.put _ (some 40) _) _
    simp only [Act.put, List.setIfInBounds_toArray, List.set_cons_zero, List.set_cons_succ]
    have DVf := hide DV6.out
    refine wpAnyH_ready (rs := [22]) (by kernel_rfl) (by simp) (AllReadyH.cons rfl (fun K1 hK1 => ?_) AllReadyH.nil)
    refine stepStoreA AEr (by rfl) _ _ (by rfl) gN CX HZ.out HA.out (by rfl) (by rfl) zEn.cells.toArray zEn.size 37 RN6.out ?_
    refine hK1.out _ _ (below_setRow DV6.out GN.out _) (fun hH => ?_)
    clear hK1
    change wpAnyH _ _ _ _ _ _ _ (Act.put _ none _) _
    simp only [Act.put]
    refine wpAnyH_done (by kernel_rfl) ?_ _
    clear hH
    have R7 := hide (setRow_heap V6 gN _ CX _ _ RN6.out)
    have R8 := hide ((setRow_other V6 gN w.heap.size CX (by have h1 := GN.out; have h2 := lt_heap R1b.out; omega)).trans ((DV6.out.block _ (lt_heap R1b.out)).trans R1b.out))
    have B8 := hide (below_next BW2.out (below_setRow DV6.out GN.out CX))
    generalize V6.setRow gN CX = V9 at *
    cases MY
    · go_wp2_with (first | (go_at_call 12; refine (HM.out _).mono ?_; rintro r V10 ⟨rfl, be⟩; have R9 := hide ((be.block _ (lt_heap R8.out)).trans R8.out); have B9 := hide (below_next B8.out be); clear be) | ((with_reducible refine at_list ?_); first | refine wpList_loadS AEr _ rfl gN rfl CX HZ.out 37 R7.out (by rfl) ?_ | refine wpList_buildA AEr rfl rfl ?_ | refine wpList_storeA AEr rfl _ _ rfl w.heap.size zEn.cells.toArray zEn.size zEn.all rfl rfl zEn.cells.toArray zEn.size 37 R9.out ?_))
      exact bodyPost_ret (v := .tuple #[.agg zEn.cells.toArray, .int .i64 130]) (resA2K AEr Tryz.results9 _ _ w.heap.size 37 _ zEn.size rfl (setRow_heap _ _ _ _ _ _ R9.out) _ rfl) rfl ⟨by rw [EV.out]; rfl, below_setRow B9.out (Nat.le_refl _) _⟩
    · go_wp2_with (first | (go_at_call 12; refine (HM.out _).mono ?_; rintro r V10 ⟨rfl, be⟩; have R9 := hide ((be.block _ (lt_heap R8.out)).trans R8.out); have R10 := hide ((be.block _ (lt_heap R7.out)).trans R7.out); have B9 := hide (below_next B8.out be); clear be) | ((with_reducible refine at_list ?_); first | refine wpList_loadS AEr _ rfl gN rfl CX HZ.out 37 R7.out (by rfl) ?_ | refine wpList_loadS AEr _ rfl gN rfl CX HZ.out 37 R10.out (by rfl) ?_ | refine wpList_storeA AEr rfl _ _ rfl w.heap.size CX HZ.out HA.out rfl rfl zEn.cells.toArray zEn.size 37 R9.out ?_))
      exact bodyPost_ret (v := .tuple #[.agg CX, .int .i64 0]) (resA2K AEr Tryz.results9 _ _ w.heap.size 37 _ HZ.out rfl (setRow_heap _ _ _ _ _ _ R9.out) _ rfl) rfl ⟨by rw [EV.out, ← HCX.out]; rfl, below_setRow B9.out (Nat.le_refl _) _⟩
  --END
end
end Go.Proofs.YtpffaaalncdjcaaGreatDoor
