/- The law's head; the document's Head, ID and Meets: their contracts. block.TakeHead: its contract. The document's TakeHead: its contract. -/
import Derived.Test.YtofddbjnncgmlabGreatDoorX31
namespace Go.Proofs.YtofddbjnncgmlabGreatDoor
open Go.RowKit
open Go.Deep
set_option linter.unusedVariables false
theorem AHr : Arr 35 68 zHd.cells.toArray := ⟨.inr ⟨_, Tryz.underlying35⟩, by kernel_rfl, fun w => by kernel_rfl, fun w => by kernel_rfl, by rw [List.size_toArray, Hd.len]⟩
theorem bld_rHd (h : Hd) (W : World) : (Instr.build 35 #[(0, .int .u32 (h.ver.toNat : Int)), (1, .agg (hc h.prev)), (2, .agg (hc h.root)), (3, .int .u32 (h.time.toNat : Int)), (4, .int .u32 (h.bits.toNat : Int)), (5, .int .u32 (h.nonce.toNat : Int))]).run Tryz.prog W = .ok (.agg h.cells.toArray) W := by
  obtain ⟨v, p, r, t, b, o, hp, hr⟩ := h
  obtain ⟨_, _, _, _, _, _, _, _, _, _, _, _, _, _, _, _, _, _, _, _, _, _, _, _, _, _, _, _, _, _, _, _, rfl⟩ := id32' p hp
  obtain ⟨_, _, _, _, _, _, _, _, _, _, _, _, _, _, _, _, _, _, _, _, _, _, _, _, _, _, _, _, _, _, _, _, rfl⟩ := id32' r hr
  kernel_rfl
section
set_option maxRecDepth 10000
set_option maxHeartbeats 4000000
theorem rhead_any (h : Hd) (w : World) : Calls Tryz.prog 73 #[.agg h.cells.toArray] w fun e w' => e = .returned (.string (txt h.bytes)) ∧ Below w.heap.size w w' := by
  have R1 := hide (heap_alloc_last w (.cells h.cells.toArray 35))
  have B1 := hide ((Below.refl w.heap.size w).alloc (Nat.le_refl _) (.cells h.cells.toArray 35))
  have CC : Hid (∀ W : World, W.heap[w.heap.size]? = some (.cells h.cells.toArray 35 (0, 0)) → (W.cell? ⟨w.heap.size, 0, none⟩ = some (.int .u32 (h.ver.toNat : Int)) ∧ W.cell? ⟨w.heap.size, 65, none⟩ = some (.int .u32 (h.time.toNat : Int)) ∧ W.cell? ⟨w.heap.size, 66, none⟩ = some (.int .u32 (h.bits.toNat : Int)) ∧ W.cell? ⟨w.heap.size, 67, none⟩ = some (.int .u32 (h.nonce.toNat : Int))) ∧ (convert 155 9 (.slice (some ⟨w.heap.size, 1, none⟩) 32 32)).run Tryz.prog W = .ok (.string (txt h.prev)) W ∧ (convert 155 9 (.slice (some ⟨w.heap.size, 33, none⟩) 32 32)).run Tryz.prog W = .ok (.string (txt h.root)) W) := fun W e => by
    have rr := rowAt h.cells e
    have c3 := h.time0 rr
    have c4 := h.bits0 rr
    have c5 := h.nonce0 rr
    have rp := h.prevR rr
    have rq := h.rootR rr
    rw [Nat.zero_add] at c3 c4 c5 rp rq
    exact ⟨⟨h.ver0 rr, c3, c4, c5⟩, conv_mid W w.heap.size 1 h.prev rp 32 h.hp.symm, conv_mid W w.heap.size 33 h.root rq 32 h.hr.symm⟩
  have HLw : Hid (∀ (n : UInt32) W, Calls Tryz.prog 114 #[.int .u64 (n.toNat : Int), .int .i64 4] W fun e w' => e = .returned (.string (txt (lowL n.toNat 4))) ∧ Below W.heap.size W w') := fun n W => low_any n.toNat 4 4 rfl (by have := n.toNat_lt; unfold U64; omega) W (by omega)
  have H0 := hide (fun W => HLw.out h.ver W)
  have H3 := hide (fun W => HLw.out h.time W)
  have H4 := hide (fun W => HLw.out h.bits W)
  have H5 := hide (fun W => HLw.out h.nonce W)
  have FIN : Hid (txt (lowL h.ver.toNat 4) ++ txt h.prev ++ txt h.root ++ txt (lowL h.time.toNat 4) ++ txt (lowL h.bits.toNat 4) ++ txt (lowL h.nonce.toNat 4) = txt h.bytes) := by
    show _ = _
    rw [txt_app, txt_app, txt_app, txt_app, txt_app]
    rfl
  have z0 : (txt (lowL h.ver.toNat 4)).size = 4 := by rw [txt_sz, lowL_len]
  have z1 : (txt h.prev).size = 32 := by rw [txt_sz, h.hp]
  have z2 : (txt h.root).size = 32 := by rw [txt_sz, h.hr]
  have z3 : (txt (lowL h.time.toNat 4)).size = 4 := by rw [txt_sz, lowL_len]
  have z4 : (txt (lowL h.bits.toNat 4)).size = 4 := by rw [txt_sz, lowL_len]
  have z5 : (txt (lowL h.nonce.toNat 4)).size = 4 := by rw [txt_sz, lowL_len]
  have w0 : IntKind.u64.wrap (h.ver.toNat : Int) = (h.ver.toNat : Int) := wrapu _ (by omega) (by have := h.ver.toNat_lt; omega)
  have w3 : IntKind.u64.wrap (h.time.toNat : Int) = (h.time.toNat : Int) := wrapu _ (by omega) (by have := h.time.toNat_lt; omega)
  have w4 : IntKind.u64.wrap (h.bits.toNat : Int) = (h.bits.toNat : Int) := wrapu _ (by omega) (by have := h.bits.toNat_lt; omega)
  have w5 : IntKind.u64.wrap (h.nonce.toNat : Int) = (h.nonce.toNat : Int) := wrapu _ (by omega) (by have := h.nonce.toNat_lt; omega)
  clear HLw
  generalize h.cells.toArray = C at *
  generalize txt (lowL h.ver.toNat 4) = t0 at *
  generalize txt (lowL h.time.toNat 4) = t3 at *
  generalize txt (lowL h.bits.toNat 4) = t4 at *
  generalize txt (lowL h.nonce.toNat 4) = t5 at *
  generalize txt h.prev = t1 at *
  generalize txt h.root = t2 at *
  generalize (h.ver.toNat : Int) = v0 at *
  generalize (h.time.toNat : Int) = v3 at *
  generalize (h.bits.toNat : Int) = v4 at *
  generalize (h.nonce.toNat : Int) = v5 at *
  go_enter Tryz.func73, Tryz.ntmps73
  go_upto_region 1 with ((with_reducible refine at_list ?_); refine wpList_boxA rfl _ rfl C rfl ?_)
  generalize w.alloc (.cells C 35) = W0 at *
  have RT : Hid (∀ W, Below W0.heap.size W0 W → W.heap[w.heap.size]? = some (.cells C 35 (0, 0))) := fun W b => (b.block _ (lt_heap R1.out)).trans R1.out
  have DV1 := hide ((Below.refl W0.heap.size W0).drew)
  refine wp_region_held_drew (S := fun W => Below W0.heap.size W0 W) (by kernel_rfl) DV1.out (fun hH => ?_)
  generalize hWd : W0.drew = V1 at *
  clear hWd
  refine wpAnyH_take (i := 0) (v := (.pointer (some ⟨w.heap.size, 0, none⟩))) rfl (by kernel_rfl) (by kernel_rfl) (by kernel_rfl) (fun _ _ _ h => h) (.inl ⟨by rfl, fun W _ => by go_simp⟩) hH ?_
  change wpAnyH _ _ _ _ _ _ _ (Act.put _ (some 3) _) _
  simp only [Act.put, List.setIfInBounds_toArray, List.set_cons_zero, List.set_cons_succ]
  refine wpAnyH_take (i := 1) (v := (.int .u32 v0)) rfl (by kernel_rfl) (by kernel_rfl) (by kernel_rfl) (fun _ _ _ h => h) (.inl ⟨by rfl, fun W hS => by have c4 := (CC.out W (RT.out W hS)).1.1; go_simp⟩) hH ?_
  change wpAnyH _ _ _ _ _ _ _ (Act.put _ (some 4) _) _
  simp only [Act.put, List.setIfInBounds_toArray, List.set_cons_zero, List.set_cons_succ]
  refine wpAnyH_take (i := 2) (v := (.int .u64 v0)) rfl (by kernel_rfl) (by kernel_rfl) (by kernel_rfl) (fun _ _ _ h => h) (.inl ⟨by rfl, fun W _ => by go_simp⟩) hH ?_
  change wpAnyH _ _ _ _ _ _ _ (Act.put _ (some 5) _) _
  simp only [Act.put, List.setIfInBounds_toArray, List.set_cons_zero, List.set_cons_succ]
  refine wpAnyH_take (i := 4) (v := (.pointer (some ⟨w.heap.size, 1, none⟩))) rfl (by kernel_rfl) (by kernel_rfl) (by kernel_rfl) (fun _ _ _ h => h) (.inl ⟨by rfl, fun W _ => by go_simp⟩) hH ?_
  change wpAnyH _ _ _ _ _ _ _ (Act.put _ (some 7) _) _
  simp only [Act.put, List.setIfInBounds_toArray, List.set_cons_zero, List.set_cons_succ]
  refine wpAnyH_take (i := 5) (v := (.slice (some ⟨w.heap.size, 1, none⟩) 32 32)) rfl (by kernel_rfl) (by kernel_rfl) (by kernel_rfl) (fun _ _ _ h => h) (.inl ⟨by rfl, fun W _ => by go_simp⟩) hH ?_
  change wpAnyH _ _ _ _ _ _ _ (Act.put _ (some 8) _) _
  simp only [Act.put, List.setIfInBounds_toArray, List.set_cons_zero, List.set_cons_succ]
  refine wpAnyH_take (i := 6) (v := (.string t1)) rfl (by kernel_rfl) (by kernel_rfl) (by kernel_rfl) (fun _ _ _ h => h) (.inl ⟨by rfl, fun W hS => by have c4 := (CC.out W (RT.out W hS)).2.1; go_simp⟩) hH ?_
  change wpAnyH _ _ _ _ _ _ _ (Act.put _ (some 9) _) _
  simp only [Act.put, List.setIfInBounds_toArray, List.set_cons_zero, List.set_cons_succ]
  refine wpAnyH_take (i := 8) (v := (.pointer (some ⟨w.heap.size, 33, none⟩))) rfl (by kernel_rfl) (by kernel_rfl) (by kernel_rfl) (fun _ _ _ h => h) (.inl ⟨by rfl, fun W _ => by go_simp⟩) hH ?_
  change wpAnyH _ _ _ _ _ _ _ (Act.put _ (some 11) _) _
  simp only [Act.put, List.setIfInBounds_toArray, List.set_cons_zero, List.set_cons_succ]
  refine wpAnyH_take (i := 9) (v := (.slice (some ⟨w.heap.size, 33, none⟩) 32 32)) rfl (by kernel_rfl) (by kernel_rfl) (by kernel_rfl) (fun _ _ _ h => h) (.inl ⟨by rfl, fun W _ => by go_simp⟩) hH ?_
  change wpAnyH _ _ _ _ _ _ _ (Act.put _ (some 12) _) _
  simp only [Act.put, List.setIfInBounds_toArray, List.set_cons_zero, List.set_cons_succ]
  refine wpAnyH_take (i := 10) (v := (.string t2)) rfl (by kernel_rfl) (by kernel_rfl) (by kernel_rfl) (fun _ _ _ h => h) (.inl ⟨by rfl, fun W hS => by have c4 := (CC.out W (RT.out W hS)).2.2; go_simp⟩) hH ?_
  change wpAnyH _ _ _ _ _ _ _ (Act.put _ (some 13) _) _
  simp only [Act.put, List.setIfInBounds_toArray, List.set_cons_zero, List.set_cons_succ]
  refine wpAnyH_take (i := 12) (v := (.pointer (some ⟨w.heap.size, 65, none⟩))) rfl (by kernel_rfl) (by kernel_rfl) (by kernel_rfl) (fun _ _ _ h => h) (.inl ⟨by rfl, fun W _ => by go_simp⟩) hH ?_
  change wpAnyH _ _ _ _ _ _ _ (Act.put _ (some 15) _) _
  simp only [Act.put, List.setIfInBounds_toArray, List.set_cons_zero, List.set_cons_succ]
  refine wpAnyH_take (i := 13) (v := (.int .u32 v3)) rfl (by kernel_rfl) (by kernel_rfl) (by kernel_rfl) (fun _ _ _ h => h) (.inl ⟨by rfl, fun W hS => by have c4 := (CC.out W (RT.out W hS)).1.2.1; go_simp⟩) hH ?_
  change wpAnyH _ _ _ _ _ _ _ (Act.put _ (some 16) _) _
  simp only [Act.put, List.setIfInBounds_toArray, List.set_cons_zero, List.set_cons_succ]
  refine wpAnyH_take (i := 14) (v := (.int .u64 v3)) rfl (by kernel_rfl) (by kernel_rfl) (by kernel_rfl) (fun _ _ _ h => h) (.inl ⟨by rfl, fun W _ => by go_simp⟩) hH ?_
  change wpAnyH _ _ _ _ _ _ _ (Act.put _ (some 17) _) _
  simp only [Act.put, List.setIfInBounds_toArray, List.set_cons_zero, List.set_cons_succ]
  refine wpAnyH_take (i := 17) (v := (.pointer (some ⟨w.heap.size, 66, none⟩))) rfl (by kernel_rfl) (by kernel_rfl) (by kernel_rfl) (fun _ _ _ h => h) (.inl ⟨by rfl, fun W _ => by go_simp⟩) hH ?_
  change wpAnyH _ _ _ _ _ _ _ (Act.put _ (some 20) _) _
  simp only [Act.put, List.setIfInBounds_toArray, List.set_cons_zero, List.set_cons_succ]
  refine wpAnyH_take (i := 18) (v := (.int .u32 v4)) rfl (by kernel_rfl) (by kernel_rfl) (by kernel_rfl) (fun _ _ _ h => h) (.inl ⟨by rfl, fun W hS => by have c4 := (CC.out W (RT.out W hS)).1.2.2.1; go_simp⟩) hH ?_
  change wpAnyH _ _ _ _ _ _ _ (Act.put _ (some 21) _) _
  simp only [Act.put, List.setIfInBounds_toArray, List.set_cons_zero, List.set_cons_succ]
  refine wpAnyH_take (i := 19) (v := (.int .u64 v4)) rfl (by kernel_rfl) (by kernel_rfl) (by kernel_rfl) (fun _ _ _ h => h) (.inl ⟨by rfl, fun W _ => by go_simp⟩) hH ?_
  change wpAnyH _ _ _ _ _ _ _ (Act.put _ (some 22) _) _
  simp only [Act.put, List.setIfInBounds_toArray, List.set_cons_zero, List.set_cons_succ]
  refine wpAnyH_take (i := 22) (v := (.pointer (some ⟨w.heap.size, 67, none⟩))) rfl (by kernel_rfl) (by kernel_rfl) (by kernel_rfl) (fun _ _ _ h => h) (.inl ⟨by rfl, fun W _ => by go_simp⟩) hH ?_
  change wpAnyH _ _ _ _ _ _ _ (Act.put _ (some 25) _) _
  simp only [Act.put, List.setIfInBounds_toArray, List.set_cons_zero, List.set_cons_succ]
  refine wpAnyH_take (i := 23) (v := (.int .u32 v5)) rfl (by kernel_rfl) (by kernel_rfl) (by kernel_rfl) (fun _ _ _ h => h) (.inl ⟨by rfl, fun W hS => by have c4 := (CC.out W (RT.out W hS)).1.2.2.2; go_simp⟩) hH ?_
  change wpAnyH _ _ _ _ _ _ _ (Act.put _ (some 26) _) _
  simp only [Act.put, List.setIfInBounds_toArray, List.set_cons_zero, List.set_cons_succ]
  refine wpAnyH_take (i := 24) (v := (.int .u64 v5)) rfl (by kernel_rfl) (by kernel_rfl) (by kernel_rfl) (fun _ _ _ h => h) (.inl ⟨by rfl, fun W _ => by go_simp⟩) hH ?_
  change wpAnyH _ _ _ _ _ _ _ (Act.put _ (some 27) _) _
  simp only [Act.put, List.setIfInBounds_toArray, List.set_cons_zero, List.set_cons_succ]
  refine wpAnyH_ready (rs := [3]) (by kernel_rfl) (by simp) (AllReadyH.cons rfl (fun K1 hK1 => ?_) AllReadyH.nil)
  go_simp
  refine (H0.out V1).mono ?_
  rintro r V2 ⟨rfl, be⟩
  have DV2 := hide (below_next DV1.out be)
  clear be
  refine hK1.out _ _ DV2.out (fun hH => ?_)
  clear hK1
  refine wpAnyH_take (i := 7) (v := (.string (t0 ++ t1))) rfl (by kernel_rfl) (by kernel_rfl) (by kernel_rfl) (fun _ _ _ h => h) (.inl ⟨by rfl, fun W _ => by go_simp⟩) hH ?_
  change wpAnyH _ _ _ _ _ _ _ (Act.put _ (some 10) _) _
  simp only [Act.put, List.setIfInBounds_toArray, List.set_cons_zero, List.set_cons_succ]
  refine wpAnyH_take (i := 11) (v := (.string (t0 ++ t1 ++ t2))) rfl (by kernel_rfl) (by kernel_rfl) (by kernel_rfl) (fun _ _ _ h => h) (.inl ⟨by rfl, fun W _ => by go_simp⟩) hH ?_
  change wpAnyH _ _ _ _ _ _ _ (Act.put _ (some 14) _) _
  simp only [Act.put, List.setIfInBounds_toArray, List.set_cons_zero, List.set_cons_succ]
  refine wpAnyH_ready (rs := [15]) (by kernel_rfl) (by simp) (AllReadyH.cons rfl (fun K1 hK1 => ?_) AllReadyH.nil)
  go_simp
  refine (H3.out V2).mono ?_
  rintro r V3 ⟨rfl, be⟩
  have DV3 := hide (below_next DV2.out be)
  clear be
  refine hK1.out _ _ DV3.out (fun hH => ?_)
  clear hK1
  refine wpAnyH_take (i := 16) (v := (.string (t0 ++ t1 ++ t2 ++ t3))) rfl (by kernel_rfl) (by kernel_rfl) (by kernel_rfl) (fun _ _ _ h => h) (.inl ⟨by rfl, fun W _ => by go_simp⟩) hH ?_
  change wpAnyH _ _ _ _ _ _ _ (Act.put _ (some 19) _) _
  simp only [Act.put, List.setIfInBounds_toArray, List.set_cons_zero, List.set_cons_succ]
  refine wpAnyH_ready (rs := [20]) (by kernel_rfl) (by simp) (AllReadyH.cons rfl (fun K1 hK1 => ?_) AllReadyH.nil)
  go_simp
  refine (H4.out V3).mono ?_
  rintro r V4 ⟨rfl, be⟩
  have DV4 := hide (below_next DV3.out be)
  clear be
  refine hK1.out _ _ DV4.out (fun hH => ?_)
  clear hK1
  refine wpAnyH_take (i := 21) (v := (.string (t0 ++ t1 ++ t2 ++ t3 ++ t4))) rfl (by kernel_rfl) (by kernel_rfl) (by kernel_rfl) (fun _ _ _ h => h) (.inl ⟨by rfl, fun W _ => by go_simp⟩) hH ?_
  change wpAnyH _ _ _ _ _ _ _ (Act.put _ (some 24) _) _
  simp only [Act.put, List.setIfInBounds_toArray, List.set_cons_zero, List.set_cons_succ]
  refine wpAnyH_ready (rs := [25]) (by kernel_rfl) (by simp) (AllReadyH.cons rfl (fun K1 hK1 => ?_) AllReadyH.nil)
  go_simp
  refine (H5.out V4).mono ?_
  rintro r V5 ⟨rfl, be⟩
  have DV5 := hide (below_next DV4.out be)
  clear be
  refine hK1.out _ _ DV5.out (fun hH => ?_)
  clear hK1
  refine wpAnyH_take (i := 26) (v := (.string (t0 ++ t1 ++ t2 ++ t3 ++ t4 ++ t5))) rfl (by kernel_rfl) (by kernel_rfl) (by kernel_rfl) (fun _ _ _ h => h) (.inl ⟨by rfl, fun W _ => by go_simp⟩) hH ?_
  change wpAnyH _ _ _ _ _ _ _ (Act.put _ (some 29) _) _
  simp only [Act.put, List.setIfInBounds_toArray, List.set_cons_zero, List.set_cons_succ]
  refine wpAnyH_take (i := 27) (v := (.string (t0 ++ t1 ++ t2 ++ t3 ++ t4 ++ t5))) rfl (by kernel_rfl) (by kernel_rfl) (by kernel_rfl) (fun _ _ _ h => h) (.inl ⟨by rfl, fun W _ => by go_simp⟩) hH ?_
  change wpAnyH _ _ _ _ _ _ _ (Act.put _ (some 2) _) _
  simp only [Act.put, List.setIfInBounds_toArray, List.set_cons_zero, List.set_cons_succ]
  refine wpAnyH_done (by kernel_rfl) ?_ _
  clear hH
  rw [FIN.out]
  go_wp2
  go_ret
  exact ⟨rfl, below_next B1.out DV5.out⟩
end
end Go.Proofs.YtofddbjnncgmlabGreatDoor
namespace Go.Proofs.YtofddbjnncgmlabGreatDoor
open Go.RowKit
open Go.Deep
set_option linter.unusedVariables false
/-- The number that up to four bytes say. -/
def u32B (l : List UInt8) : UInt32 := UInt32.ofNat (leN l)
theorem u32B_nat (l : List UInt8) (h : l.length ≤ 4) : (u32B l).toNat = leN l := by
  have := leN_lt' l 4 4294967296 h rfl
  rw [u32B, UInt32.toNat_ofNat', Nat.mod_eq_of_lt this]
/-- The header that bytes say. -/
def hdOf (l : List UInt8) (h : 80 ≤ l.length) : Hd := ⟨u32B (l.take 4), (l.drop 4).take 32, (l.drop 36).take 32, u32B ((l.drop 68).take 4), u32B ((l.drop 72).take 4), u32B ((l.drop 76).take 4), by simp; omega, by simp; omega⟩
/-- The header at a place, and the error. -/
def tkH (l : List UInt8) : Hd × Int := if h : 80 ≤ l.length then (hdOf l h, 0) else (zHd, 4)
def tkA (s : ByteArray) (a : Int) : Hd × Int := if a < 0 ∨ (s.size : Int) < a then (zHd, 1) else tkH (s.data.toList.drop a.toNat)
theorem Hd.setV (h : Hd) (n : UInt32) : h.cells.toArray.setIfInBounds 0 (.int .u32 (n.toNat : Int)) = ({ h with ver := n } : Hd).cells.toArray := by
  rw [List.setIfInBounds_toArray]
  rfl
theorem Hd.setL (h : Hd) (j : Nat) (hj : j < 3) (v : Value) : h.cells.set (65 + j) v = .int .u32 (h.ver.toNat : Int) :: (cellsL h.prev ++ (cellsL h.root ++ [Value.int .u32 (h.time.toNat : Int), .int .u32 (h.bits.toNat : Int), .int .u32 (h.nonce.toNat : Int)].set j v)) := by
  have hl : (cellsL h.prev).length = 32 := by rw [cellsL_len, h.hp]
  have hm : (cellsL h.root).length = 32 := by rw [cellsL_len, h.hr]
  rw [Hd.cells, show 65 + j = (64 + j) + 1 by omega, List.set_cons_succ, List.set_append_right _ _ (by omega), hl, List.set_append_right _ _ (by omega), hm, show 64 + j - 32 - 32 = j by omega]
theorem Hd.setT (h : Hd) (n : UInt32) : h.cells.toArray.setIfInBounds 65 (.int .u32 (n.toNat : Int)) = ({ h with time := n } : Hd).cells.toArray := by
  rw [List.setIfInBounds_toArray, h.setL 0 (by omega)]
  rfl
theorem Hd.setB (h : Hd) (n : UInt32) : h.cells.toArray.setIfInBounds 66 (.int .u32 (n.toNat : Int)) = ({ h with bits := n } : Hd).cells.toArray := by
  rw [List.setIfInBounds_toArray, h.setL 1 (by omega)]
  rfl
theorem Hd.setN (h : Hd) (n : UInt32) : h.cells.toArray.setIfInBounds 67 (.int .u32 (n.toNat : Int)) = ({ h with nonce := n } : Hd).cells.toArray := by
  rw [List.setIfInBounds_toArray, h.setL 2 (by omega)]
  rfl
theorem Hd.setP {W : World} {g : Nat} {t : TypeId} (h : Hd) (l : List UInt8) (hl : l.length = 32) (e : W.heap[g]? = some (.cells h.cells.toArray t (0, 0))) : (W.setCells g 1 (cellsL l)).heap[g]? = some (.cells ({ h with prev := l, hp := hl } : Hd).cells.toArray t (0, 0)) :=
  row_setCells (cellsL h.root ++ [.int .u32 (h.time.toNat : Int), .int .u32 (h.bits.toNat : Int), .int .u32 (h.nonce.toNat : Int)]) g t (cellsL l) (cellsL h.prev) [.int .u32 (h.ver.toNat : Int)] W e (by rw [cellsL_len, cellsL_len, h.hp, hl])
theorem Hd.setR {W : World} {g : Nat} {t : TypeId} (h : Hd) (l : List UInt8) (hl : l.length = 32) (e : W.heap[g]? = some (.cells h.cells.toArray t (0, 0))) : (W.setCells g 33 (cellsL l)).heap[g]? = some (.cells ({ h with root := l, hr := hl } : Hd).cells.toArray t (0, 0)) := by
  have := row_setCells [.int .u32 (h.time.toNat : Int), .int .u32 (h.bits.toNat : Int), .int .u32 (h.nonce.toNat : Int)] g t (cellsL l) (cellsL h.root) (.int .u32 (h.ver.toNat : Int) :: cellsL h.prev) W e (by rw [cellsL_len, cellsL_len, h.hr, hl])
  rw [List.length_cons, cellsL_len, h.hp] at this
  exact this
theorem Hd.there {W : World} {g : Nat} {t : TypeId} (h : Hd) (e : W.heap[g]? = some (.cells h.cells.toArray t (0, 0))) (o n : Nat) (hn : o + n ≤ 68) : W.there g o n := fun j hj => by
  refine ⟨?_, frozen_of_row W g _ _ _ e⟩
  rw [cell_of_row _ _ _ _ _ _ e, Array.getElem?_eq_getElem (by rw [h.size]; omega)]
  rfl
/-- What is known of the world while a header is taken. -/
structure Tkh (w W : World) (g4 g6 gr : Nat) (s : ByteArray) (p e : Int) (h : Hd) : Prop where
  r4 : W.heap[g4]? = some (.cells zHd.cells.toArray 27 (0, 0))
  r6 : W.heap[g6]? = some (.cells h.cells.toArray 27 (0, 0))
  st : Rst W gr s p e
  bel : Below w.heap.size w W
  n46 : g4 ≠ g6
  n4r : g4 ≠ gr
  n6r : g6 ≠ gr
  l4 : w.heap.size ≤ g4
  l6 : w.heap.size ≤ g6
  lr : w.heap.size ≤ gr
  p0 : 0 ≤ p
  p1 : p ≤ s.size
section
variable {w W W' : World} {g4 g6 gr : Nat} {s : ByteArray} {p e : Int} {h : Hd}
theorem Tkh.step (t : Tkh w W g4 g6 gr s p e h) (n : Int) (q : Rst W' gr s (rtake s p e n).1 (rtake s p e n).2.1) (f : Rfr gr W W') : Tkh w W' g4 g6 gr s (rtake s p e n).1 (rtake s p e n).2.1 h :=
  ⟨(f.block _ (lt_heap t.r4) t.n4r).trans t.r4, (f.block _ (lt_heap t.r6) t.n6r).trans t.r6, q, t.bel.trans (f.to_below t.lr t.bel.size), t.n46, t.n4r, t.n6r, t.l4, t.l6, t.lr, (rtake_inv s p e n t.p0 t.p1).1, (rtake_inv s p e n t.p0 t.p1).2⟩
theorem Tkh.put (t : Tkh w W g4 g6 gr s p e h) (f : Rfr g6 W W') (k : Hd) (r : W'.heap[g6]? = some (.cells k.cells.toArray 27 (0, 0))) : Tkh w W' g4 g6 gr s p e k :=
  ⟨(f.block _ (lt_heap t.r4) t.n46).trans t.r4, r, (f.block _ t.st.lt (Ne.symm t.n6r)).trans t.st, t.bel.trans (f.to_below t.l6 t.bel.size), t.n46, t.n4r, t.n6r, t.l4, t.l6, t.lr, t.p0, t.p1⟩
end
theorem hashOf_len (s : ByteArray) (p e : Int) (h0 : 0 ≤ p) (h1 : p ≤ s.size) : (hashOf (rtake s p e 32)).length = 32 := by
  unfold hashOf
  split
  · exact zeros_len
  · rename_i h
    have h2 : (rtake s p e 32).2.1 = 0 := by simpa using h
    obtain ⟨-, -, -, h5, h6⟩ := rtake_ok s p e 32 h2
    rw [h6]
    simp
    omega
theorem rt_ok (s : ByteArray) (p n : Nat) (h : p + n ≤ s.size) : rtake s (p : Int) 0 (n : Int) = (((p + n : Nat) : Int), 0, s.extract p (p + n)) := by
  unfold rtake
  rw [if_neg (by decide), if_neg (by omega), if_neg (by omega)]
  simp only [Int.toNat_natCast, Int.natCast_add]
  rfl
theorem rt_bad (s : ByteArray) (p : Int) (e n : Int) (he : e ≠ 0) : rtake s p e n = (p, e, ⟨#[]⟩) := by
  unfold rtake
  rw [if_pos he]
theorem rt_cut (s : ByteArray) (p n : Nat) (h : ¬ p + n ≤ s.size) : rtake s (p : Int) 0 (n : Int) = ((p : Int), 4, ⟨#[]⟩) := by
  unfold rtake
  rw [if_neg (by decide), if_neg (by omega), if_pos (by omega)]
theorem ext_mid (s : ByteArray) (p q : Nat) : (s.extract p q).data.toList = (s.data.toList.drop p).take (q - p) := by
  rw [ByteArray.data_extract, Array.toList_extract]
/-! ### the six parts -/
def R1 (T : ByteArray) : Int × Int × ByteArray := rtake T 0 0 4
def R2 (T : ByteArray) : Int × Int × ByteArray := rtake T (R1 T).1 (R1 T).2.1 32
def R3 (T : ByteArray) : Int × Int × ByteArray := rtake T (R2 T).1 (R2 T).2.1 32
def R4 (T : ByteArray) : Int × Int × ByteArray := rtake T (R3 T).1 (R3 T).2.1 4
def R5 (T : ByteArray) : Int × Int × ByteArray := rtake T (R4 T).1 (R4 T).2.1 4
def R6 (T : ByteArray) : Int × Int × ByteArray := rtake T (R5 T).1 (R5 T).2.1 4
theorem R1_ok (T : ByteArray) (h : 4 ≤ T.size) : R1 T = (4, 0, T.extract 0 4) := rt_ok T 0 4 (by omega)
theorem R2_ok (T : ByteArray) (h : 36 ≤ T.size) : R2 T = (36, 0, T.extract 4 36) := by rw [R2, R1_ok T (by omega)]; exact rt_ok T 4 32 (by omega)
theorem R3_ok (T : ByteArray) (h : 68 ≤ T.size) : R3 T = (68, 0, T.extract 36 68) := by rw [R3, R2_ok T (by omega)]; exact rt_ok T 36 32 (by omega)
theorem R4_ok (T : ByteArray) (h : 72 ≤ T.size) : R4 T = (72, 0, T.extract 68 72) := by rw [R4, R3_ok T (by omega)]; exact rt_ok T 68 4 (by omega)
theorem R5_ok (T : ByteArray) (h : 76 ≤ T.size) : R5 T = (76, 0, T.extract 72 76) := by rw [R5, R4_ok T (by omega)]; exact rt_ok T 72 4 (by omega)
theorem R6_ok (T : ByteArray) (h : 80 ≤ T.size) : R6 T = (80, 0, T.extract 76 80) := by rw [R6, R5_ok T (by omega)]; exact rt_ok T 76 4 (by omega)
theorem bad_on (T : ByteArray) (R : Int × Int × ByteArray) (n : Int) (h : R.2.1 = 4) : (rtake T R.1 R.2.1 n).2.1 = 4 := by rw [rt_bad T R.1 R.2.1 n (by rw [h]; decide)]; exact h
theorem R6_bad (T : ByteArray) (h : ¬ 80 ≤ T.size) : (R6 T).2.1 = 4 := by
  have a1 : ¬ 4 ≤ T.size → (R1 T).2.1 = 4 := fun q => by rw [R1]; exact congrArg (·.2.1) (rt_cut T 0 4 (by omega))
  have a2 : ¬ 36 ≤ T.size → (R2 T).2.1 = 4 := fun q => by
    by_cases h4 : 4 ≤ T.size
    · rw [R2, R1_ok T h4]; exact congrArg (·.2.1) (rt_cut T 4 32 (by omega))
    · exact bad_on T (R1 T) 32 (a1 h4)
  have a3 : ¬ 68 ≤ T.size → (R3 T).2.1 = 4 := fun q => by
    by_cases h4 : 36 ≤ T.size
    · rw [R3, R2_ok T h4]; exact congrArg (·.2.1) (rt_cut T 36 32 (by omega))
    · exact bad_on T (R2 T) 32 (a2 h4)
  have a4 : ¬ 72 ≤ T.size → (R4 T).2.1 = 4 := fun q => by
    by_cases h4 : 68 ≤ T.size
    · rw [R4, R3_ok T h4]; exact congrArg (·.2.1) (rt_cut T 68 4 (by omega))
    · exact bad_on T (R3 T) 4 (a3 h4)
  have a5 : ¬ 76 ≤ T.size → (R5 T).2.1 = 4 := fun q => by
    by_cases h4 : 72 ≤ T.size
    · rw [R5, R4_ok T h4]; exact congrArg (·.2.1) (rt_cut T 72 4 (by omega))
    · exact bad_on T (R4 T) 4 (a4 h4)
  by_cases h4 : 76 ≤ T.size
  · rw [R6, R5_ok T h4]; exact congrArg (·.2.1) (rt_cut T 76 4 (by omega))
  · exact bad_on T (R5 T) 4 (a5 h4)
section
variable {w W : World} {g4 g6 gr : Nat} {s : ByteArray} {p e : Int} {h : Hd}
theorem Tkh.sV (t : Tkh w W g4 g6 gr s p e h) (X : List UInt8) (hX : X.length ≤ 4) : Tkh w (W.setCell ⟨g6, 0, none⟩ (.int .u32 (leN X : Int))) g4 g6 gr s p e { h with ver := u32B X } :=
  t.put (Rfr.setCell g6 W 0 _) _ (by rw [heap_setCell_same W g6 0 _ _ _ t.r6, ← u32B_nat X hX, h.setV])
theorem Tkh.sT (t : Tkh w W g4 g6 gr s p e h) (X : List UInt8) (hX : X.length ≤ 4) : Tkh w (W.setCell ⟨g6, 65, none⟩ (.int .u32 (leN X : Int))) g4 g6 gr s p e { h with time := u32B X } :=
  t.put (Rfr.setCell g6 W 65 _) _ (by rw [heap_setCell_same W g6 65 _ _ _ t.r6, ← u32B_nat X hX, h.setT])
theorem Tkh.sB (t : Tkh w W g4 g6 gr s p e h) (X : List UInt8) (hX : X.length ≤ 4) : Tkh w (W.setCell ⟨g6, 66, none⟩ (.int .u32 (leN X : Int))) g4 g6 gr s p e { h with bits := u32B X } :=
  t.put (Rfr.setCell g6 W 66 _) _ (by rw [heap_setCell_same W g6 66 _ _ _ t.r6, ← u32B_nat X hX, h.setB])
theorem Tkh.sN (t : Tkh w W g4 g6 gr s p e h) (X : List UInt8) (hX : X.length ≤ 4) : Tkh w (W.setCell ⟨g6, 67, none⟩ (.int .u32 (leN X : Int))) g4 g6 gr s p e { h with nonce := u32B X } :=
  t.put (Rfr.setCell g6 W 67 _) _ (by rw [heap_setCell_same W g6 67 _ _ _ t.r6, ← u32B_nat X hX, h.setN])
theorem Tkh.sP (t : Tkh w W g4 g6 gr s p e h) (l : List UInt8) (hl : l.length = 32) : Tkh w (W.setCells g6 1 (hc l).toList) g4 g6 gr s p e { h with prev := l, hp := hl } := by
  rw [show (hc l).toList = cellsL l by simp [hc]]
  exact t.put (Rfr.setCells g6 (cellsL l) 1 W) _ (h.setP l hl t.r6)
theorem Tkh.sR (t : Tkh w W g4 g6 gr s p e h) (l : List UInt8) (hl : l.length = 32) : Tkh w (W.setCells g6 33 (hc l).toList) g4 g6 gr s p e { h with root := l, hr := hl } := by
  rw [show (hc l).toList = cellsL l by simp [hc]]
  exact t.put (Rfr.setCells g6 (cellsL l) 33 W) _ (h.setR l hl t.r6)
theorem Tkh.at (t : Tkh w W g4 g6 gr s p e h) (i : Nat) (hi : i < 68) : ∃ v, W.cell? ⟨g6, i, none⟩ = some v := by
  have := (h.there t.r6 i 1 (by omega) 0 (by omega)).1
  exact Option.isSome_iff_exists.1 this
theorem Tkh.fz (t : Tkh w W g4 g6 gr s p e h) (i : Nat) : W.frozen? ⟨g6, i, none⟩ = false := frozen_of_row W g6 i _ _ t.r6
end
theorem sz4 (s : ByteArray) (p e : Int) (h0 : 0 ≤ p) : (rtake s p e 4).2.2.data.toList.length ≤ 4 := by
  have := rtake_size s p e 4 4 rfl h0
  simpa using this
section
set_option maxRecDepth 10000
set_option maxHeartbeats 4000000
end
end Go.Proofs.YtofddbjnncgmlabGreatDoor
namespace Go.Proofs.YtofddbjnncgmlabGreatDoor
open Go.RowKit
open Go.Deep
set_option linter.unusedVariables false
/-- Zeros, of which the first so many are laid over. -/
def layN (l : List UInt8) (j : Nat) : List UInt8 := l.take j ++ zeros.drop j
theorem layN_len (l : List UInt8) (hl : l.length = 32) (j : Nat) (hj : j ≤ 32) : (layN l j).length = 32 := by
  have := zeros_len
  simp [layN]
  omega
theorem layN_set (l : List UInt8) (hl : l.length = 32) (j : Nat) (hj : j < 32) (b : UInt8) (hb : l[j]'(by omega) = b) : (hc (layN l j)).setIfInBounds j (.int .u8 (b.toNat : Int)) = hc (layN l (j + 1)) := by
  subst hb
  have hz := zeros_len
  have e : (layN l j).set j (l[j]'(by omega)) = layN l (j + 1) := by
    unfold layN
    have h1 : (l.take j).length = j := by simp; omega
    rw [List.set_append_right _ _ (by omega), h1, Nat.sub_self, List.drop_eq_getElem_cons (show j < zeros.length by omega), List.set_cons_zero, ← List.take_append_getElem (show j < l.length by omega), List.append_assoc]
    rfl
  rw [← e, hc, hc, List.setIfInBounds_toArray, cellsL, cellsL, List.map_set]
section
set_option maxRecDepth 10000
set_option maxHeartbeats 4000000
end
end Go.Proofs.YtofddbjnncgmlabGreatDoor
