/- The law's head; the document's Head, ID and Meets: their contracts. -/
import Derived.Test.YtpffaaalncdjcaaGreatDoorN20
namespace Go.Proofs.YtpffaaalncdjcaaGreatDoor
open Go.RowKit
open Go.Deep
set_option linter.unusedVariables false
theorem AHr : Arr 35 68 zHd.cells.toArray := ⟨.inr ⟨_, Tryz.underlying35⟩, by kernel_rfl, fun w => by kernel_rfl, fun w => by kernel_rfl, by rw [List.size_toArray, Hd.len]⟩
theorem bld_rHd (h : Hd) (W : World) : (Instr.build 35 #[(0, .int .u32 (h.ver.toNat : Int)), (1, .agg (hc h.prev)), (2, .agg (hc h.root)), (3, .int .u32 (h.time.toNat : Int)), (4, .int .u32 (h.bits.toNat : Int)), (5, .int .u32 (h.nonce.toNat : Int))]).run Tryz.prog W = .ok (.agg h.cells.toArray) W := by
  obtain ⟨v, p, r, t, b, o, hp, hr⟩ := h
  obtain ⟨_, _, _, _, _, _, _, _, _, _, _, _, _, _, _, _, _, _, _, _, _, _, _, _, _, _, _, _, _, _, _, _, rfl⟩ := id32' p hp
  obtain ⟨_, _, _, _, _, _, _, _, _, _, _, _, _, _, _, _, _, _, _, _, _, _, _, _, _, _, _, _, _, _, _, _, rfl⟩ := id32' r hr
  kernel_rfl
section
set_option maxRecDepth 10000
set_option maxHeartbeats 4000000
theorem rhead_any (h : Hd) (w : World) : Calls Tryz.prog 42 #[.agg h.cells.toArray] w fun e w' => e = .returned (.string (txt h.bytes)) ∧ Below w.heap.size w w' := by
  have R1 := hide (heap_alloc_last w (.cells h.cells.toArray 35))
  have B1 := hide ((Below.refl w.heap.size w).alloc (Nat.le_refl _) (.cells h.cells.toArray 35))
  have CC : Hid (∀ W : World, W.heap[w.heap.size]? = some (.cells h.cells.toArray 35 (0, 0)) → (W.cell? ⟨w.heap.size, 0, none⟩ = some (.int .u32 (h.ver.toNat : Int)) ∧ W.cell? ⟨w.heap.size, 65, none⟩ = some (.int .u32 (h.time.toNat : Int)) ∧ W.cell? ⟨w.heap.size, 66, none⟩ = some (.int .u32 (h.bits.toNat : Int)) ∧ W.cell? ⟨w.heap.size, 67, none⟩ = some (.int .u32 (h.nonce.toNat : Int))) ∧ (convert 80 9 (.slice (some ⟨w.heap.size, 1, none⟩) 32 32)).run Tryz.prog W = .ok (.string (txt h.prev)) W ∧ (convert 80 9 (.slice (some ⟨w.heap.size, 33, none⟩) 32 32)).run Tryz.prog W = .ok (.string (txt h.root)) W) := fun W e => by
    have rr := rowAt h.cells e
    have c3 := h.time0 rr
    have c4 := h.bits0 rr
    have c5 := h.nonce0 rr
    have rp := h.prevR rr
    have rq := h.rootR rr
    rw [Nat.zero_add] at c3 c4 c5 rp rq
    exact ⟨⟨h.ver0 rr, c3, c4, c5⟩, conv_mid W w.heap.size 1 h.prev rp 32 h.hp.symm, conv_mid W w.heap.size 33 h.root rq 32 h.hr.symm⟩
  have HLw : Hid (∀ (n : UInt32) W, Calls Tryz.prog 44 #[.int .u64 (n.toNat : Int), .int .i64 4] W fun e w' => e = .returned (.string (txt (lowL n.toNat 4))) ∧ Below W.heap.size W w') := fun n W => low_any n.toNat 4 4 rfl (by have := n.toNat_lt; unfold U64; omega) W (by omega)
  have H0 := hide (fun W => HLw.out h.ver W)
  have H3 := hide (fun W => HLw.out h.time W)
  have H4 := hide (fun W => HLw.out h.bits W)
  have H5 := hide (fun W => HLw.out h.nonce W)
  have FIN : Hid (txt (lowL h.ver.toNat 4) ++ txt h.prev ++ txt h.root ++ txt (lowL h.time.toNat 4) ++ txt (lowL h.bits.toNat 4) ++ txt (lowL h.nonce.toNat 4) = txt h.bytes) := by
    show _ = _
    rw [txt_app, txt_app, txt_app, txt_app, txt_app]
    rfl
  have z0 : (txt (lowL h.ver.toNat 4)).size = 4 := by rw [txt_sz, lowL_len]
  have z1 : (txt h.prev).size = 32 := by rw [txt_sz, h.hp]
  have z2 : (txt h.root).size = 32 := by rw [txt_sz, h.hr]
  have z3 : (txt (lowL h.time.toNat 4)).size = 4 := by rw [txt_sz, lowL_len]
  have z4 : (txt (lowL h.bits.toNat 4)).size = 4 := by rw [txt_sz, lowL_len]
  have z5 : (txt (lowL h.nonce.toNat 4)).size = 4 := by rw [txt_sz, lowL_len]
  have w0 : IntKind.u64.wrap (h.ver.toNat : Int) = (h.ver.toNat : Int) := wrapu _ (by omega) (by have := h.ver.toNat_lt; omega)
  have w3 : IntKind.u64.wrap (h.time.toNat : Int) = (h.time.toNat : Int) := wrapu _ (by omega) (by have := h.time.toNat_lt; omega)
  have w4 : IntKind.u64.wrap (h.bits.toNat : Int) = (h.bits.toNat : Int) := wrapu _ (by omega) (by have := h.bits.toNat_lt; omega)
  have w5 : IntKind.u64.wrap (h.nonce.toNat : Int) = (h.nonce.toNat : Int) := wrapu _ (by omega) (by have := h.nonce.toNat_lt; omega)
  clear HLw
  generalize h.cells.toArray = C at *
  generalize txt (lowL h.ver.toNat 4) = t0 at *
  generalize txt (lowL h.time.toNat 4) = t3 at *
  generalize txt (lowL h.bits.toNat 4) = t4 at *
  generalize txt (lowL h.nonce.toNat 4) = t5 at *
  generalize txt h.prev = t1 at *
  generalize txt h.root = t2 at *
  generalize (h.ver.toNat : Int) = v0 at *
  generalize (h.time.toNat : Int) = v3 at *
  generalize (h.bits.toNat : Int) = v4 at *
  generalize (h.nonce.toNat : Int) = v5 at *
  go_enter Tryz.func42, Tryz.ntmps42
  go_upto_region 1 with ((with_reducible refine at_list ?_); refine wpList_boxA rfl _ rfl C rfl ?_)
  generalize w.alloc (.cells C 35) = W0 at *
  have RT : Hid (∀ W, Below W0.heap.size W0 W → W.heap[w.heap.size]? = some (.cells C 35 (0, 0))) := fun W b => (b.block _ (lt_heap R1.out)).trans R1.out
  have DV1 := hide ((Below.refl W0.heap.size W0).drew)
  refine wp_region_held_drew (S := fun W => Below W0.heap.size W0 W) (by kernel_rfl) DV1.out (fun hH => ?_)
  generalize hWd : W0.drew = V1 at *
  clear hWd
  refine wpAnyH_take (i := 0) (v := (.pointer (some ⟨w.heap.size, 0, none⟩))) rfl (by kernel_rfl) (by kernel_rfl) (by kernel_rfl) (fun _ _ _ h => h) (.inl ⟨by rfl, fun W _ => by go_simp⟩) hH ?_
  change wpAnyH _ _ _ _ _ _ _ (Act.put _ (some 3) _) _
  simp only [Act.put, List.setIfInBounds_toArray, List.set_cons_zero, List.set_cons_succ]
  refine wpAnyH_take (i := 1) (v := (.int .u32 v0)) rfl (by kernel_rfl) (by kernel_rfl) (by kernel_rfl) (fun _ _ _ h => h) (.inl ⟨by rfl, fun W hS => by have c4 := (CC.out W (RT.out W hS)).1.1; go_simp⟩) hH ?_
  change wpAnyH _ _ _ _ _ _ _ (Act.put _ (some 4) _) _
  simp only [Act.put, List.setIfInBounds_toArray, List.set_cons_zero, List.set_cons_succ]
  refine wpAnyH_take (i := 2) (v := (.int .u64 v0)) rfl (by kernel_rfl) (by kernel_rfl) (by kernel_rfl) (fun _ _ _ h => h) (.inl ⟨by rfl, fun W _ => by go_simp⟩) hH ?_
  change wpAnyH _ _ _ _ _ _ _ (Act.put _ (some 5) _) _
  simp only [Act.put, List.setIfInBounds_toArray, List.set_cons_zero, List.set_cons_succ]
  refine wpAnyH_take (i := 4) (v := (.pointer (some ⟨w.heap.size, 1, none⟩))) rfl (by kernel_rfl) (by kernel_rfl) (by kernel_rfl) (fun _ _ _ h => h) (.inl ⟨by rfl, fun W _ => by go_simp⟩) hH ?_
  change wpAnyH _ _ _ _ _ _ _ (Act.put _ (some 7) _) _
  simp only [Act.put, List.setIfInBounds_toArray, List.set_cons_zero, List.set_cons_succ]
  refine wpAnyH_take (i := 5) (v := (.slice (some ⟨w.heap.size, 1, none⟩) 32 32)) rfl (by kernel_rfl) (by kernel_rfl) (by kernel_rfl) (fun _ _ _ h => h) (.inl ⟨by rfl, fun W _ => by go_simp⟩) hH ?_
  change wpAnyH _ _ _ _ _ _ _ (Act.put _ (some 8) _) _
  simp only [Act.put, List.setIfInBounds_toArray, List.set_cons_zero, List.set_cons_succ]
  refine wpAnyH_take (i := 6) (v := (.string t1)) rfl (by kernel_rfl) (by kernel_rfl) (by kernel_rfl) (fun _ _ _ h => h) (.inl ⟨by rfl, fun W hS => by have c4 := (CC.out W (RT.out W hS)).2.1; go_simp⟩) hH ?_
  change wpAnyH _ _ _ _ _ _ _ (Act.put _ (some 9) _) _
  simp only [Act.put, List.setIfInBounds_toArray, List.set_cons_zero, List.set_cons_succ]
  refine wpAnyH_take (i := 8) (v := (.pointer (some ⟨w.heap.size, 33, none⟩))) rfl (by kernel_rfl) (by kernel_rfl) (by kernel_rfl) (fun _ _ _ h => h) (.inl ⟨by rfl, fun W _ => by go_simp⟩) hH ?_
  change wpAnyH _ _ _ _ _ _ _ (Act.put _ (some 11) _) _
  simp only [Act.put, List.setIfInBounds_toArray, List.set_cons_zero, List.set_cons_succ]
  refine wpAnyH_take (i := 9) (v := (.slice (some ⟨w.heap.size, 33, none⟩) 32 32)) rfl (by kernel_rfl) (by kernel_rfl) (by kernel_rfl) (fun _ _ _ h => h) (.inl ⟨by rfl, fun W _ => by go_simp⟩) hH ?_
  change wpAnyH _ _ _ _ _ _ _ (Act.put _ (some 12) _) _
  simp only [Act.put, List.setIfInBounds_toArray, List.set_cons_zero, List.set_cons_succ]
  refine wpAnyH_take (i := 10) (v := (.string t2)) rfl (by kernel_rfl) (by kernel_rfl) (by kernel_rfl) (fun _ _ _ h => h) (.inl ⟨by rfl, fun W hS => by have c4 := (CC.out W (RT.out W hS)).2.2; go_simp⟩) hH ?_
  change wpAnyH _ _ _ _ _ _ _ (Act.put _ (some 13) _) _
  simp only [Act.put, List.setIfInBounds_toArray, List.set_cons_zero, List.set_cons_succ]
  refine wpAnyH_take (i := 12) (v := (.pointer (some ⟨w.heap.size, 65, none⟩))) rfl (by kernel_rfl) (by kernel_rfl) (by kernel_rfl) (fun _ _ _ h => h) (.inl ⟨by rfl, fun W _ => by go_simp⟩) hH ?_
  change wpAnyH _ _ _ _ _ _ _ (Act.put _ (some 15) _) _
  simp only [Act.put, List.setIfInBounds_toArray, List.set_cons_zero, List.set_cons_succ]
  refine wpAnyH_take (i := 13) (v := (.int .u32 v3)) rfl (by kernel_rfl) (by kernel_rfl) (by kernel_rfl) (fun _ _ _ h => h) (.inl ⟨by rfl, fun W hS => by have c4 := (CC.out W (RT.out W hS)).1.2.1; go_simp⟩) hH ?_
  change wpAnyH _ _ _ _ _ _ _ (Act.put _ (some 16) _) _
  simp only [Act.put, List.setIfInBounds_toArray, List.set_cons_zero, List.set_cons_succ]
  refine wpAnyH_take (i := 14) (v := (.int .u64 v3)) rfl (by kernel_rfl) (by kernel_rfl) (by kernel_rfl) (fun _ _ _ h => h) (.inl ⟨by rfl, fun W _ => by go_simp⟩) hH ?_
  change wpAnyH _ _ _ _ _ _ _ (Act.put _ (some 17) _) _
  simp only [Act.put, List.setIfInBounds_toArray, List.set_cons_zero, List.set_cons_succ]
  refine wpAnyH_take (i := 17) (v := (.pointer (some ⟨w.heap.size, 66, none⟩))) rfl (by kernel_rfl) (by kernel_rfl) (by kernel_rfl) (fun _ _ _ h => h) (.inl ⟨by rfl, fun W _ => by go_simp⟩) hH ?_
  change wpAnyH _ _ _ _ _ _ _ (Act.put _ (some 20) _) _
  simp only [Act.put, List.setIfInBounds_toArray, List.set_cons_zero, List.set_cons_succ]
  refine wpAnyH_take (i := 18) (v := (.int .u32 v4)) rfl (by kernel_rfl) (by kernel_rfl) (by kernel_rfl) (fun _ _ _ h => h) (.inl ⟨by rfl, fun W hS => by have c4 := (CC.out W (RT.out W hS)).1.2.2.1; go_simp⟩) hH ?_
  change wpAnyH _ _ _ _ _ _ _ (Act.put _ (some 21) _) _
  simp only [Act.put, List.setIfInBounds_toArray, List.set_cons_zero, List.set_cons_succ]
  refine wpAnyH_take (i := 19) (v := (.int .u64 v4)) rfl (by kernel_rfl) (by kernel_rfl) (by kernel_rfl) (fun _ _ _ h => h) (.inl ⟨by rfl, fun W _ => by go_simp⟩) hH ?_
  change wpAnyH _ _ _ _ _ _ _ (Act.put _ (some 22) _) _
  simp only [Act.put, List.setIfInBounds_toArray, List.set_cons_zero, List.set_cons_succ]
  refine wpAnyH_take (i := 22) (v := (.pointer (some ⟨w.heap.size, 67, none⟩))) rfl (by kernel_rfl) (by kernel_rfl) (by kernel_rfl) (fun _ _ _ h => h) (.inl ⟨by rfl, fun W _ => by go_simp⟩) hH ?_
  change wpAnyH _ _ _ _ _ _ _ (Act.put _ (some 25) _) _
  simp only [Act.put, List.setIfInBounds_toArray, List.set_cons_zero, List.set_cons_succ]
  refine wpAnyH_take (i := 23) (v := (.int .u32 v5)) rfl (by kernel_rfl) (by kernel_rfl) (by kernel_rfl) (fun _ _ _ h => h) (.inl ⟨by rfl, fun W hS => by have c4 := (CC.out W (RT.out W hS)).1.2.2.2; go_simp⟩) hH ?_
  change wpAnyH _ _ _ _ _ _ _ (Act.put _ (some 26) _) _
  simp only [Act.put, List.setIfInBounds_toArray, List.set_cons_zero, List.set_cons_succ]
  refine wpAnyH_take (i := 24) (v := (.int .u64 v5)) rfl (by kernel_rfl) (by kernel_rfl) (by kernel_rfl) (fun _ _ _ h => h) (.inl ⟨by rfl, fun W _ => by go_simp⟩) hH ?_
  change wpAnyH _ _ _ _ _ _ _ (Act.put _ (some 27) _) _
  simp only [Act.put, List.setIfInBounds_toArray, List.set_cons_zero, List.set_cons_succ]
  refine wpAnyH_ready (rs := [3]) (by kernel_rfl) (by simp) (AllReadyH.cons rfl (fun K1 hK1 => ?_) AllReadyH.nil)
  go_simp
  refine (H0.out V1).mono ?_
  rintro r V2 ⟨rfl, be⟩
  have DV2 := hide (below_next DV1.out be)
  clear be
  refine hK1.out _ _ DV2.out (fun hH => ?_)
  clear hK1
  refine wpAnyH_take (i := 7) (v := (.string (t0 ++ t1))) rfl (by kernel_rfl) (by kernel_rfl) (by kernel_rfl) (fun _ _ _ h => h) (.inl ⟨by rfl, fun W _ => by go_simp⟩) hH ?_
  change wpAnyH _ _ _ _ _ _ _ (Act.put _ (some 10) _) _
  simp only [Act.put, List.setIfInBounds_toArray, List.set_cons_zero, List.set_cons_succ]
  refine wpAnyH_take (i := 11) (v := (.string (t0 ++ t1 ++ t2))) rfl (by kernel_rfl) (by kernel_rfl) (by kernel_rfl) (fun _ _ _ h => h) (.inl ⟨by rfl, fun W _ => by go_simp⟩) hH ?_
  change wpAnyH _ _ _ _ _ _ _ (Act.put _ (some 14) _) _
  simp only [Act.put, List.setIfInBounds_toArray, List.set_cons_zero, List.set_cons_succ]
  refine wpAnyH_ready (rs := [15]) (by kernel_rfl) (by simp) (AllReadyH.cons rfl (fun K1 hK1 => ?_) AllReadyH.nil)
  go_simp
  refine (H3.out V2).mono ?_
  rintro r V3 ⟨rfl, be⟩
  have DV3 := hide (below_next DV2.out be)
  clear be
  refine hK1.out _ _ DV3.out (fun hH => ?_)
  clear hK1
  refine wpAnyH_take (i := 16) (v := (.string (t0 ++ t1 ++ t2 ++ t3))) rfl (by kernel_rfl) (by kernel_rfl) (by kernel_rfl) (fun _ _ _ h => h) (.inl ⟨by rfl, fun W _ => by go_simp⟩) hH ?_
  change wpAnyH _ _ _ _ _ _ _ (Act.put _ (some 19) _) _
  simp only [Act.put, List.setIfInBounds_toArray, List.set_cons_zero, List.set_cons_succ]
  refine wpAnyH_ready (rs := [20]) (by kernel_rfl) (by simp) (AllReadyH.cons rfl (fun K1 hK1 => ?_) AllReadyH.nil)
  go_simp
  refine (H4.out V3).mono ?_
  rintro r V4 ⟨rfl, be⟩
  have DV4 := hide (below_next DV3.out be)
  clear be
  refine hK1.out _ _ DV4.out (fun hH => ?_)
  clear hK1
  refine wpAnyH_take (i := 21) (v := (.string (t0 ++ t1 ++ t2 ++ t3 ++ t4))) rfl (by kernel_rfl) (by kernel_rfl) (by kernel_rfl) (fun _ _ _ h => h) (.inl ⟨by rfl, fun W _ => by go_simp⟩) hH ?_
  change wpAnyH _ _ _ _ _ _ _ (Act.put _ (some 24) _) _
  simp only [Act.put, List.setIfInBounds_toArray, List.set_cons_zero, List.set_cons_succ]
  refine wpAnyH_ready (rs := [25]) (by kernel_rfl) (by simp) (AllReadyH.cons rfl (fun K1 hK1 => ?_) AllReadyH.nil)
  go_simp
  refine (H5.out V4).mono ?_
  rintro r V5 ⟨rfl, be⟩
  have DV5 := hide (below_next DV4.out be)
  clear be
  refine hK1.out _ _ DV5.out (fun hH => ?_)
  clear hK1
  refine wpAnyH_take (i := 26) (v := (.string (t0 ++ t1 ++ t2 ++ t3 ++ t4 ++ t5))) rfl (by kernel_rfl) (by kernel_rfl) (by kernel_rfl) (fun _ _ _ h => h) (.inl ⟨by rfl, fun W _ => by go_simp⟩) hH ?_
  change wpAnyH _ _ _ _ _ _ _ (Act.put _ (some 29) _) _
  simp only [Act.put, List.setIfInBounds_toArray, List.set_cons_zero, List.set_cons_succ]
  refine wpAnyH_take (i := 27) (v := (.string (t0 ++ t1 ++ t2 ++ t3 ++ t4 ++ t5))) rfl (by kernel_rfl) (by kernel_rfl) (by kernel_rfl) (fun _ _ _ h => h) (.inl ⟨by rfl, fun W _ => by go_simp⟩) hH ?_
  change wpAnyH _ _ _ _ _ _ _ (Act.put _ (some 2) _) _
  simp only [Act.put, List.setIfInBounds_toArray, List.set_cons_zero, List.set_cons_succ]
  refine wpAnyH_done (by kernel_rfl) ?_ _
  clear hH
  rw [FIN.out]
  go_wp2
  go_ret
  exact ⟨rfl, below_next B1.out DV5.out⟩
theorem rhid_any (h : Hd) (w : World) : Calls Tryz.prog 52 #[.agg h.cells.toArray] w fun e w' => e = .returned (.agg (hc h.id)) ∧ Below w.heap.size w w' := by
  have HH := hide (fun W => rhead_any h W)
  have HT := hide (fun W => rtwice_any (txt h.bytes) (by rw [txt_sz, h.bytes_len]; omega) W)
  have s1 : (w.alloc (.cells h.cells.toArray 35)).heap.size = w.heap.size + 1 := by simp
  have R1 := hide ((Below.heap_alloc _ (.cells (hc zeros) 23) _ (lt_heap (heap_alloc_last w (.cells h.cells.toArray 35)))).trans (heap_alloc_last w (.cells h.cells.toArray 35)))
  have R2 := hide (heap_alloc_last (w.alloc (.cells h.cells.toArray 35)) (.cells (hc zeros) 23))
  have B1 := hide (((Below.refl w.heap.size w).alloc (Nat.le_refl _) (.cells h.cells.toArray 35)).alloc (by rw [s1]; omega) (.cells (hc zeros) 23))
  have CZ := hide h.size
  have IL := hide h.id_len
  rw [s1] at R2
  rw [show digest (digest (txt h.bytes).data.toList) = h.id from rfl] at HT
  generalize h.cells.toArray = C at *
  generalize h.id = D at *
  generalize txt h.bytes = T at *
  go_enter Tryz.func52, Tryz.ntmps52
  go_upto_region 1 with ((with_reducible refine at_list ?_); first | refine wpList_boxA rfl _ rfl C rfl ?_ | refine wpList_allocA A24 rfl rfl ?_)
  try rw [s1]
  clear s1
  generalize (w.alloc (.cells C 35)).alloc (.cells (hc zeros) 23) = W0 at *
  go_wp2_with (first | (go_at_call 42; refine (HH.out _).mono ?_; rintro r W1 ⟨rfl, be⟩; have D1 := hide be; clear be) | (go_at_call 86; refine (HT.out _).mono ?_; rintro r W2 ⟨rfl, be⟩; have D2 := hide (below_next D1.out be); clear be; have R3 := hide ((D2.out.block _ (lt_heap R2.out)).trans R2.out)) | ((with_reducible refine at_list ?_); first | refine wpList_loadS AHr _ rfl w.heap.size rfl C CZ.out 35 R1.out (by rfl) ?_ | refine wpList_storeA A24 rfl _ _ rfl (w.heap.size + 1) (hc D) (by rw [hc_size, IL.out]) (hc_one _) rfl rfl (hc zeros) (by rw [hc_size, zeros_len]) 23 R3.out ?_))
  exact bodyPost_ret (v := .agg (hc D)) (resA A24 Tryz.results52 _ _ (w.heap.size + 1) 23 _ (by rw [hc_size, IL.out]) rfl (setRow_heap _ _ _ _ _ _ R3.out)) rfl ⟨rfl, below_setRow (below_next B1.out D2.out) (by omega) _⟩
end
end Go.Proofs.YtpffaaalncdjcaaGreatDoor
